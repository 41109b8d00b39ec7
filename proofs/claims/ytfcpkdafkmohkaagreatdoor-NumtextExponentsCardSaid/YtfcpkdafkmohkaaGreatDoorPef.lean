/-
  Merged texts (Tn, To, Tr, Vc, Vd, Ve, Vf, Vn, Vo, Vv, Lk, Lp, Ye, Yf, Zd, Ze, Yh, Yi, Zf).
-/
import Derived.Test.YtfcpkdafkmohkaaGreatDoorPee
import Derived.Shelf.Strings.SlTrimAscii
import Derived.Shelf.Strings.Builder1
import Derived.Shelf.Strings.Builder2
import Derived.Shelf.Strings.OnBuilder
import Derived.Shelf.Strings.Trim
import Derived.Shelf.Small.Utf8
import Derived.Shelf.Small.Bits
import Derived.Shelf.Small.Strs
import Derived.Shelf.Small.Wraps
import Derived.Shelf.Strings.BuilderF
import Derived.Shelf.Strings.BuilderK
import Derived.Shelf.Strconv.Itoa0
import Derived.Shelf.Strconv.Itoa1
import Derived.Shelf.LaysM
import Derived.Shelf.Strconv.Itoa2
import Derived.Shelf.Strconv.Itoa3
import Derived.Shelf.Strings.Search1
import Derived.Shelf.Strings.Prefix
import Derived.Shelf.Unicode.Latin
import Derived.Shelf.Strings.Runes
import Derived.Shelf.Strings.AsciiSet
import Derived.Shelf.Bits.Mul64
import Derived.Shelf.Strings.Repeat
import Derived.Shelf.Unicode.DecodeSlow
import Derived.Shelf.Unicode.CaseLookup
import Derived.Shelf.Unicode.CaseConvert
import Derived.Shelf.Unicode.CaseTo
import Derived.Shelf.Unicode.CaseLaid
import Derived.Test.YtfcpkdafkmohkaaGreatDoorProg
import GoSem.Core.Utf8
import Derived.WalkKit
import Derived.WalkSpells
import Derived.WalkLawsBesides
import Derived.Deep.QuietTactic
import Derived.BigQuiet
import Derived.Lib.Hide
import Derived.Deep.OwnRows
import Derived.Laws.CopyOwn
import Derived.Deep.AppendLies
import Derived.Lib.BitFns
import Derived.Lib.Strings
import Derived.Laws.BitsAllLaws
import Derived.Lib.LaidTab
import Derived.ProofKit
import Derived.OpenShut
import Derived.SizedLaws
import Derived.Laws.BytesString
import Derived.Laws.Cells
import Derived.Deep.RegionWith
import Derived.BigRegion
import Derived.Test.YtfcpkdafkmohkaaGreatDoorRows
import Derived.Lib.ItoaNum
import Derived.Deep.DeepCutAuto
import Ieee.Arith
import GoSem.Core.Float
import Derived.Laws.FloatArith
import Derived.Laws.Externs
import Derived.Deep.RegionHeld3
import Derived.Laws.Closers25b
import Derived.Lib.SlTrimSet
import Derived.Lib.Case
import Derived.Deep.WholeRow
import Derived.Laws.Tables
import Derived.Laws.EntriesVeiled
import Derived.Lib.AppendIntMem
namespace Go.Proofs.YtfcpkdafkmohkaaGreatDoor
open Go.RowKit
theorem thexadecimal_any (l : List Nat) (w : World) (hl : ∀ c ∈ l, c < 128) (hs : l.length ≤ 140737488355328) :
  Ct 67 #[.string (strOf l)] (.tuple #[.float .f64 (if hxB l = true then natV 16 (l.drop 2) else 0 : Nat), .bool (hxB l)]) w := by
 have hb : ∀ c ∈ l, c < 256 := fun c hc => Nat.lt_trans (hl c hc) (by omega)
 have C1 : ∀ W, Cq 85 #[.string (strOf l)] (.tuple #[.string (strOf (if hxA l = true then l.drop 2 else l)), .bool (hxA l)]) W := by
  intro W
  have := tcutHex_any (strOf l) W
  rw [bl_strOf hb] at this
  exact this
 obtain ⟨u, hu⟩ : ∃ u, l.drop 2 = u := ⟨_, rfl⟩
 have hul : ∀ c ∈ u, c < 128 := fun c hc => hl c (by rw [← hu] at hc; exact List.mem_of_mem_drop hc)
 have hus : u.length ≤ 140737488355328 := by rw [← hu, List.length_drop]; omega
 have hx : hxB l = (hxA l && !u.isEmpty && u.all hx16) := by unfold hxB; rw [hu]
 rw [hu]
 rw [hu] at C1
 cases ha : hxA l
 ·rw [ha] at C1 hx
  rw [hx, Bool.false_and, Bool.false_and, if_neg (by simp)]
  exact thex_no _ _ w (Lib.hid C1)
 ·rw [ha, if_pos rfl] at C1
  rw [ha, Bool.true_and] at hx
  have C2 := Lib.hid (fun W => lower_str u W hul hus)
  have C3 := Lib.hid (fun W => cut_low u 16 W (by omega) hul hus)
  have ne : ∀ R : List Nat, R ≠ [] → (strOf R).toList.isEmpty = false := fun R hR => (str_ne hR).2
  have em : (strOf []).toList.isEmpty = true := by rw [Lib.toList_data]; rfl
  by_cases h1 : u.takeWhile (dgq 16) = []
  ·have hn : hxB l = false := by
    rw [hx]
    cases u with
    | nil => rfl
    | cons c t =>
     have : dgq 16 c = false := by
      cases h : dgq 16 c
      ·rfl
      ·rw [List.takeWhile_cons_of_pos h] at h1; cases h1
     show (true && (hx16 c && t.all hx16)) = false
     rw [← dgq_hx, this]
     rfl
   rw [hn, if_neg (by simp)]
   exact thex_not _ _ _ _ _ w (Lib.hid C1) C2 C3 (Or.inl (by rw [h1]; exact em))
  ·by_cases h2 : u.dropWhile (dgq 16) = []
   ·have h3 := (drop_nil _ _).1 h2
    have h4 := take_all _ _ h3
    have hu0 : u ≠ [] := fun e => h1 (by rw [e]; rfl)
    have hn : hxB l = true := by
     rw [hx, ← dgq_hx, h3, Bool.and_true]
     cases u with
     | nil => exact absurd rfl hu0
     | cons => rfl
    rw [hn, if_pos rfl]
    rw [h4, h2] at C3
    have hd : ∀ c ∈ u, dgt c < 16 := by
     have := take_dgq 16 u
     rw [h4] at this
     exact this
    have C4 : ∀ W, Ct 89 #[.string (strOf (u.map lowC)), .int .i64 16] (.float .f64 (natV 16 u)) W := by
     intro W
     have := twhole_any (u.map lowC) 16 W (by omega) (by omega) (by simpa using hu0) (by
      intro c hc
      obtain ⟨d, hd2, rfl⟩ := List.mem_map.1 hc
      rw [dgt_low]
      exact hd d hd2) (low_lt hul) (by rw [List.length_map]; omega)
     rw [natV_low] at this
     exact this
    exact thex_yes _ _ _ _ _ _ w (Lib.hid C1) C2 C3 (Lib.hid C4) (ne _ (by simpa using hu0)) em
   ·have hn : hxB l = false := by
     rw [hx, ← dgq_hx]
     cases h3 : u.all (dgq 16)
     ·rw [Bool.and_false]
     ·exact absurd ((drop_nil _ _).2 h3) h2
    rw [hn, if_neg (by simp)]
    exact thex_not _ _ _ _ _ w (Lib.hid C1) C2 C3 (Or.inr ⟨ne _ (by simpa using h1), ne _ (by simpa using h2)⟩)
theorem and_sign (x : Nat) (hx : x < 18446744073709551616) : bits BinOp.and IntKind.u64 (x : Int) 9223372036854775808 = ((if fneg x = true then 9223372036854775808 else 0 : Nat) : Int) := by
 show IntKind.u64.wrap ((BitVec.ofInt 64 (x : Int) &&& BitVec.ofInt 64 9223372036854775808).toNat : Int) = _
 have e1 : (BitVec.ofInt 64 (x : Int)) = BitVec.ofNat 64 x := by rw [BitVec.ofInt_natCast]
 have e2 : (BitVec.ofInt 64 9223372036854775808) = BitVec.ofNat 64 (2 ^ 63) := by decide
 rw [e1, e2, BitVec.toNat_and, BitVec.toNat_ofNat, BitVec.toNat_ofNat, Nat.mod_eq_of_lt (by omega : x < 2 ^ 64), Nat.mod_eq_of_lt (by omega : 2 ^ 63 < 2 ^ 64), IntKind.wrap_u64]
 have h2 : x &&& 2 ^ 63 = x / 2 ^ 63 % 2 * 2 ^ 63 := by
  apply Nat.eq_of_testBit_eq
  intro i
  rw [Nat.testBit_and, Nat.testBit_two_pow]
  by_cases h : 63 = i
  ·subst h
   rw [decide_eq_true rfl, Bool.and_true, Nat.testBit_mul_two_pow, Nat.testBit_eq_decide_div_mod_eq]
   simp
  ·rw [decide_eq_false h, Bool.and_false, Nat.testBit_mul_two_pow]
   by_cases hi : 63 ≤ i
   ·have : x / 2 ^ 63 % 2 < 2 ^ (i - 63) := Nat.lt_of_lt_of_le (Nat.mod_lt _ (by omega)) (by have := Nat.pow_le_pow_right (n := 2) (by omega) (show 1 ≤ i - 63 by omega); omega)
    rw [Nat.testBit_lt_two_pow this]; simp
   ·simp [hi]
 rw [h2]
 unfold fneg
 have h4 : x / 2 ^ 63 % 2 = 0 ∨ x / 2 ^ 63 % 2 = 1 := by omega
 rw [show (9223372036854775808 : Nat) = 2 ^ 63 from rfl]
 rcases h4 with h4 | h4 <;> rw [h4] <;> simp
theorem or_sign (s : Bool) {r : Nat} (hr : r < 9223372036854775808) : bits BinOp.or IntKind.u64 (r : Int) ((if s = true then 9223372036854775808 else 0 : Nat) : Int) = ((Ieee.double.word s r : Nat) : Int) := by
 cases s
 ·rw [if_neg (by simp), or_u64 r 0 (by omega) (by omega), Nat.or_zero]; rfl
 ·rw [if_pos rfl, or_u64 r 9223372036854775808 (by omega) (by omega)]
  have := Nat.two_pow_add_eq_or_of_lt (i := 63) (b := r) hr 1
  rw [Nat.or_comm, show (9223372036854775808 : Nat) = 2 ^ 63 * 1 from rfl, ← this]
  rfl
set_option maxRecDepth 100000 in
theorem copysign_word (f x : Nat) (w : World) (hf : f < 18446744073709551616) (hx : x < 18446744073709551616) : Cq 88 #[.float .f64 f, .float .f64 x] (.float .f64 (Ieee.double.word (fneg x) (rung f))) w := by
 have h1 := f64bits_run f w
 have h2 := f64bits_run x w
 have h3 := not_sign f hf
 have h4 := and_sign x hx
 have hr : rung f < 9223372036854775808 := Nat.mod_lt _ (by omega)
 have h5 := or_sign (fneg x) hr
 have h6 := f64from_run (Ieee.double.word (fneg x) (rung f)) w
 obtain ⟨a, ha⟩ : ∃ a, rung f = a := ⟨_, rfl⟩
 obtain ⟨b, hb⟩ : ∃ b : Nat, (if fneg x = true then 9223372036854775808 else 0 : Nat) = b := ⟨_, rfl⟩
 rw [ha] at h3 h5 h6 ⊢
 rw [hb] at h4 h5
 obtain ⟨c, hc⟩ : ∃ c, Ieee.double.word (fneg x) a = c := ⟨_, rfl⟩
 rw [hc] at h5 h6 ⊢
 clear hf hx hr ha hb hc
 go_enter Tryz.func88, Tryz.ntmps88
 go_wp2
 go_ret
 exact ⟨rfl, rfl⟩
theorem word_sg (b : Bool) (x : Nat) : Ieee.double.word b x = sgW b x := by cases b <;> rfl
theorem fneg_sg (b : Bool) : fneg (sgF b) = b := by cases b <;> rfl
theorem tcopysign_any (x : Nat) (b : Bool) (w : World) (hx : x < 9223372036854775808) :
  Cq 88 #[.float .f64 x, .float .f64 (sgF b)] (.float .f64 (sgW b x)) w := by
 have h := copysign_word x (sgF b) w (by omega) (by cases b <;> decide)
 rw [fneg_sg, show rung x = x from Nat.mod_eq_of_lt hx, word_sg] at h
 exact h

end Go.Proofs.YtfcpkdafkmohkaaGreatDoor
namespace Go.Proofs.YtfcpkdafkmohkaaGreatDoor
open Go.RowKit
set_option maxRecDepth 100000 in
set_option maxHeartbeats 1000000 in
theorem tnumber_inf (s u v : ByteArray) (b : Bool) (w : World)
  (C1 : Hid (∀ W, Cq 84 #[.string s] (.tuple #[.float .f64 (sgF b : Nat), .string u]) W))
  (C2 : Hid (∀ W, Cq 131 #[.string u, .string ⟨#[73, 110, 102, 105, 110, 105, 116, 121]⟩] (.tuple #[.string v, .bool true]) W)) :
  Ct 76 #[.string s] (.tuple #[.float .f64 (sgW b 9218868437227405312), .string v, .bool true]) w := by
 have C3 := Lib.hid (fun W => inf1_any W)
 have C4 := Lib.hid (fun W => tcopysign_any 9218868437227405312 b W (by omega))
 go_enter Tryz.func76, Tryz.ntmps76
 go_wp2_with fail
 refine (C1.out _).mono ?_
 rintro e w' ⟨rfl, rfl⟩
 go_wp2_with fail
 refine (C2.out _).mono ?_
 rintro e w' ⟨rfl, rfl⟩
 go_wp2_with fail
 refine (C3.out _).mono ?_
 rintro e w' ⟨rfl, rfl⟩
 go_wp2_with fail
 refine (C4.out _).mono ?_
 rintro e w' ⟨rfl, rfl⟩
 go_wp2
 refine bodyPost_ret (results_tmp3 rfl _ _ _) rfl ?_
 exact ⟨rfl, Below.refl _ _⟩
set_option maxRecDepth 100000 in
set_option maxHeartbeats 1000000 in
theorem tnumber_dec (s u v p q r : ByteArray) (X : Int) (F : Nat) (b : Bool) (w : World) (hF : F < 9223372036854775808)
  (C1 : Hid (∀ W, Cq 84 #[.string s] (.tuple #[.float .f64 (sgF b : Nat), .string u]) W))
  (C2 : Hid (∀ W, Cq 131 #[.string u, .string ⟨#[73, 110, 102, 105, 110, 105, 116, 121]⟩] (.tuple #[.string v, .bool false]) W))
  (C3 : Hid (∀ W, Ct 68 #[.string u] (.tuple #[.agg #[.string p, .string q, .int .i64 X], .string r, .bool true]) W))
  (C4 : Hid (∀ W, Ct 69 #[.agg #[.string p, .string q, .int .i64 X]] (.float .f64 F) W)) :
  Ct 76 #[.string s] (.tuple #[.float .f64 (sgW b F), .string r, .bool true]) w := by
 have C5 := Lib.hid (fun W => tcopysign_any F b W hF)
 clear hF
 go_enter Tryz.func76, Tryz.ntmps76
 go_wp2_with fail
 refine (C1.out _).mono ?_
 rintro e w' ⟨rfl, rfl⟩
 go_wp2_with fail
 refine (C2.out _).mono ?_
 rintro e w' ⟨rfl, rfl⟩
 go_wp2_with fail
 refine (C3.out _).mono ?_
 rintro e w1 ⟨rfl, b1⟩
 have B1 := Lib.hid (alloc_below (.cells #[.string p, .string q, .int .i64 X] 64) b1)
 clear b1
 go_wp2_with fail
 refine (C4.out _).mono ?_
 rintro e w2 ⟨rfl, b2⟩
 have B2 := Lib.hid (below_le B1.out b2)
 clear b2
 go_wp2_with fail
 refine (C5.out _).mono ?_
 rintro e w' ⟨rfl, rfl⟩
 go_wp2
 refine bodyPost_ret (results_tmp3 rfl _ _ _) rfl ?_
 exact ⟨rfl, B2.out⟩
set_option maxRecDepth 100000 in
set_option maxHeartbeats 1000000 in
theorem tnumber_none (s u v : ByteArray) (b : Bool) (w : World)
  (C1 : Hid (∀ W, Cq 84 #[.string s] (.tuple #[.float .f64 (sgF b : Nat), .string u]) W))
  (C2 : Hid (∀ W, Cq 131 #[.string u, .string ⟨#[73, 110, 102, 105, 110, 105, 116, 121]⟩] (.tuple #[.string v, .bool false]) W))
  (C3 : Hid (∀ W, Ct 68 #[.string u] (.tuple #[.agg #[.string ⟨#[]⟩, .string ⟨#[]⟩, .int .i64 0], .string ⟨#[]⟩, .bool false]) W)) :
  Ct 76 #[.string s] (.tuple #[.float .f64 0, .string ⟨#[]⟩, .bool false]) w := by
 go_enter Tryz.func76, Tryz.ntmps76
 go_wp2_with fail
 refine (C1.out _).mono ?_
 rintro e w' ⟨rfl, rfl⟩
 go_wp2_with fail
 refine (C2.out _).mono ?_
 rintro e w' ⟨rfl, rfl⟩
 go_wp2_with fail
 refine (C3.out _).mono ?_
 rintro e w1 ⟨rfl, b1⟩
 have B1 := Lib.hid (alloc_below (.cells #[.string ⟨#[]⟩, .string ⟨#[]⟩, .int .i64 0] 64) b1)
 clear b1
 go_wp2
 refine bodyPost_ret (results_tmp3 rfl _ _ _) rfl ?_
 exact ⟨rfl, B1.out⟩
theorem decR_fin (N : Nat) (e : Int) : decR N e ≤ 9218868437227405312 := by unfold decR rnd; exact Nat.min_le_right _ _
def nbB (l : List Nat) : Bool := infB (unsg l) || dB (unsg l)
def nbV (l : List Nat) : Nat := if infB (unsg l) = true then sgW (sgnB l) 9218868437227405312 else if dB (unsg l) = true then sgW (sgnB l) (dV (unsg l)) else 0
def nbR (l : List Nat) : List Nat := if infB (unsg l) = true then (unsg l).drop 8 else if dB (unsg l) = true then dR (unsg l) else []
theorem tnumber_any (l : List Nat) (w : World) (hl : ∀ c ∈ l, c < 256) (hs : l.length ≤ 140737488355328) :
  Ct 76 #[.string (strOf l)] (.tuple #[.float .f64 (nbV l), .string (strOf (nbR l)), .bool (nbB l)]) w := by
 have C1 : ∀ W, Cq 84 #[.string (strOf l)] (.tuple #[.float .f64 (sgF (sgnB l) : Nat), .string (strOf (unsg l))]) W := by
  intro W
  have := tcutSign_any (strOf l) W
  rw [bl_strOf hl] at this
  exact this
 obtain ⟨u, hu⟩ : ∃ u, unsg l = u := ⟨_, rfl⟩
 have hul : ∀ c ∈ u, c < 256 := fun c hc => hl c (unsg_sub c (by rw [hu]; exact hc))
 have hus : u.length ≤ 140737488355328 := by rw [← hu]; exact Nat.le_trans (unsg_len l) hs
 rw [hu] at C1
 have C2 := fun W => cut_any' (strOf u) ⟨#[73, 110, 102, 105, 110, 105, 116, 121]⟩ W
 rw [bl_strOf hul, show bl ⟨#[73, 110, 102, 105, 110, 105, 116, 121]⟩ = infL from rfl, show (⟨#[73, 110, 102, 105, 110, 105, 116, 121]⟩ : ByteArray).size = 8 from rfl] at C2
 have e1 : infL.isPrefixOf u = infB u := rfl
 rw [e1] at C2
 unfold nbV nbR nbB
 rw [hu]
 cases hi : infB u
 ·rw [hi, if_neg (by simp)] at C2
  simp only [Bool.false_eq_true, if_false, Bool.false_or]
  cases hd : dB u
  ·simp only [Bool.false_eq_true, if_false]
   refine tnumber_none _ _ _ _ w (Lib.hid C1) (Lib.hid C2) (Lib.hid (fun W => ?_))
   have := tcutDecimal_no (strOf u) W (by rw [strOf_size]; omega) (by rw [bl_strOf hul]; exact hd)
   exact this
  ·simp only [if_true]
   refine tnumber_dec _ _ _ _ _ _ _ _ _ w (by have := decR_fin (num 10 (dW u ++ dF u)) (dX u - (dF u).length); unfold dV; omega) (Lib.hid C1) (Lib.hid C2) (Lib.hid (fun W => ?_)) (Lib.hid (fun W => tfloat_dec u W (by omega)))
   have := tcutDecimal_yes (strOf u) W (by rw [strOf_size]; omega) (by rw [bl_strOf hul]; exact hd)
   rw [bl_strOf hul] at this
   exact this
 ·rw [hi, if_pos rfl] at C2
  simp only [if_true, Bool.true_or]
  exact tnumber_inf _ _ _ _ w (Lib.hid C1) (Lib.hid C2)

end Go.Proofs.YtfcpkdafkmohkaaGreatDoor
namespace Go.Proofs.YtfcpkdafkmohkaaGreatDoor
open Go.RowKit
set_option maxRecDepth 100000 in
theorem tnan_any (w : World) : Cq 77 #[] (.float .f64 nanW) w := by
 have h1 : (callFunc 120 #[.int .u64 9221120237041090560]).run Tryz.prog w = .ok (.value (.float .f64 9221120237041090560)) w := f64from_run 9221120237041090560 w
 go_enter Tryz.func77, Tryz.ntmps77
 go_wp2
 go_ret
 exact ⟨rfl, rfl⟩
theorem inf_split {u : List Nat} (h : infB u = true) : u = infL ++ u.drop 8 := by
 unfold infB at h
 obtain ⟨t, ht⟩ := List.isPrefixOf_iff_prefix.1 h
 rw [← ht, show (infL ++ t).drop 8 = t from rfl]
theorem inf_dec {u : List Nat} (h : infB u = true) : dB u = false := by
 rw [inf_split h]
 rfl
theorem inf_all {u : List Nat} : (infB u = true ∧ u.drop 8 = []) ↔ u = infL := by
 constructor
 ·rintro ⟨h1, h2⟩
  have := inf_split h1
  rw [h2, List.append_nil] at this
  exact this
 ·intro h; rw [h]; exact ⟨by decide, by decide⟩
theorem numW_nb (l : List Nat) : numW l = if l = [] then 0 else if hxB l = true then natV 16 (l.drop 2) else if nbB l = true ∧ nbR l = [] then nbV l else nanW := by
 unfold numW
 by_cases h0 : l = []
 ·rw [if_pos h0, if_pos h0]
 ·rw [if_neg h0, if_neg h0]
  by_cases h1 : hxB l = true
  ·rw [if_pos h1, if_pos h1]
  ·rw [if_neg h1, if_neg h1]
   unfold nbB nbR nbV
   cases hi : infB (unsg l)
   ·have hn : ¬ unsg l = infL := fun e => by rw [e] at hi; revert hi; decide
    rw [if_neg hn]
    simp only [Bool.false_or, Bool.false_eq_true, if_false]
    cases hd : dB (unsg l)
    ·simp
    ·simp
   ·have hd := inf_dec hi
    simp only [Bool.true_or, if_true, true_and, hd, Bool.false_eq_true, false_and, if_false]
    by_cases he : (unsg l).drop 8 = []
    ·rw [if_pos (inf_all.1 ⟨hi, he⟩), if_pos he]
    ·rw [if_neg (fun e => he (inf_all.2 e).2), if_neg he]
theorem trim_len (s : ByteArray) : (trimS s).size ≤ s.size := by
 unfold trimS slS
 split
 ·rw [ByteArray.size_extract]; omega
 ·exact Nat.zero_le _
theorem nrw_len (z : Nat) (l : List Nat) : (nrw z l).length = l.length := by unfold nrw; rw [List.length_map]
theorem nrw_size {s : ByteArray} (h : s.size ≤ 140737488355328) : (nrw 0 (us s)).length ≤ 140737488355328 := by
 rw [nrw_len, us_length]
 have := ln_le s
 omega
theorem em_str : (strOf []).toList.isEmpty = true := by rw [Lib.toList_data]; rfl
theorem em_iff (l : List Nat) : (strOf l).toList.isEmpty = decide (l = []) := by
 by_cases h : l = []
 ·rw [h, em_str]; rfl
 ·rw [(str_ne h).2, decide_eq_false h]
set_option maxRecDepth 100000 in
set_option maxHeartbeats 1000000 in
theorem tNumber_walk (s t l r : ByteArray) (H F : Nat) (c1 c2 c3 c4 : Bool) (w : World)
  (C1 : Hid (∀ W, Cp 75 #[.string s] W fun e w' => e = .returned (.string t) ∧ ∃ n, w' = W.drewN n))
  (C2 : Hid (∀ W, Ct 66 #[.string t] (.string l) W))
  (C3 : Hid (∀ W, Ct 67 #[.string l] (.tuple #[.float .f64 H, .bool c2]) W))
  (C4 : Hid (∀ W, Ct 76 #[.string l] (.tuple #[.float .f64 F, .string r, .bool c3]) W))
  (t1 : l.toList.isEmpty = c1) (t2 : r.toList.isEmpty = c4) :
  Ct 28 #[.string s] (.float .f64 (if c1 = true then 0 else if c2 = true then H else if c3 = true ∧ c4 = true then F else nanW : Nat)) w := by
 have C5 := Lib.hid (fun W => tnan_any W)
 cases c1
 ·cases c2
  ·cases c3
   ·simp only [Bool.false_eq_true, if_false, false_and]
    go_enter Tryz.func28, Tryz.ntmps28
    go_wp2_with fail
    refine (C1.out _).mono ?_
    rintro e w' ⟨rfl, n, rfl⟩
    go_wp2_with fail
    refine (C2.out _).mono ?_
    rintro e w1 ⟨rfl, b1⟩
    have B1 := Lib.hid (below_drewN' (Below.refl w.heap.size w) n |>.trans b1)
    clear b1
    go_wp2_with fail
    refine (C3.out _).mono ?_
    rintro e w2 ⟨rfl, b2⟩
    have B2 := Lib.hid (below_le B1.out b2)
    clear b2
    go_wp2_with fail
    refine (C4.out _).mono ?_
    rintro e w3 ⟨rfl, b3⟩
    have B3 := Lib.hid (below_le B2.out b3)
    clear b3
    go_wp2_with fail
    refine (C5.out _).mono ?_
    rintro e w' ⟨rfl, rfl⟩
    go_wp2
    go_ret
    exact ⟨rfl, B3.out⟩
   ·cases c4
    ·simp only [Bool.false_eq_true, if_false, and_false]
     go_enter Tryz.func28, Tryz.ntmps28
     go_wp2_with fail
     refine (C1.out _).mono ?_
     rintro e w' ⟨rfl, n, rfl⟩
     go_wp2_with fail
     refine (C2.out _).mono ?_
     rintro e w1 ⟨rfl, b1⟩
     have B1 := Lib.hid (below_drewN' (Below.refl w.heap.size w) n |>.trans b1)
     clear b1
     go_wp2_with fail
     refine (C3.out _).mono ?_
     rintro e w2 ⟨rfl, b2⟩
     have B2 := Lib.hid (below_le B1.out b2)
     clear b2
     go_wp2_with fail
     refine (C4.out _).mono ?_
     rintro e w3 ⟨rfl, b3⟩
     have B3 := Lib.hid (below_le B2.out b3)
     clear b3
     go_wp2_with fail
     refine (C5.out _).mono ?_
     rintro e w' ⟨rfl, rfl⟩
     go_wp2
     go_ret
     exact ⟨rfl, B3.out⟩
    ·simp only [Bool.false_eq_true, if_false, and_self, if_true]
     go_enter Tryz.func28, Tryz.ntmps28
     go_wp2_with fail
     refine (C1.out _).mono ?_
     rintro e w' ⟨rfl, n, rfl⟩
     go_wp2_with fail
     refine (C2.out _).mono ?_
     rintro e w1 ⟨rfl, b1⟩
     have B1 := Lib.hid (below_drewN' (Below.refl w.heap.size w) n |>.trans b1)
     clear b1
     go_wp2_with fail
     refine (C3.out _).mono ?_
     rintro e w2 ⟨rfl, b2⟩
     have B2 := Lib.hid (below_le B1.out b2)
     clear b2
     go_wp2_with fail
     refine (C4.out _).mono ?_
     rintro e w3 ⟨rfl, b3⟩
     have B3 := Lib.hid (below_le B2.out b3)
     clear b3
     go_wp2
     go_ret
     exact ⟨rfl, B3.out⟩
  ·simp only [Bool.false_eq_true, if_false, if_true]
   go_enter Tryz.func28, Tryz.ntmps28
   go_wp2_with fail
   refine (C1.out _).mono ?_
   rintro e w' ⟨rfl, n, rfl⟩
   go_wp2_with fail
   refine (C2.out _).mono ?_
   rintro e w1 ⟨rfl, b1⟩
   have B1 := Lib.hid (below_drewN' (Below.refl w.heap.size w) n |>.trans b1)
   clear b1
   go_wp2_with fail
   refine (C3.out _).mono ?_
   rintro e w2 ⟨rfl, b2⟩
   have B2 := Lib.hid (below_le B1.out b2)
   clear b2
   go_wp2
   go_ret
   exact ⟨rfl, B2.out⟩
 ·simp only [if_true]
  go_enter Tryz.func28, Tryz.ntmps28
  go_wp2_with fail
  refine (C1.out _).mono ?_
  rintro e w' ⟨rfl, n, rfl⟩
  go_wp2_with fail
  refine (C2.out _).mono ?_
  rintro e w1 ⟨rfl, b1⟩
  have B1 := Lib.hid (below_drewN' (Below.refl w.heap.size w) n |>.trans b1)
  clear b1
  go_wp2
  go_ret
  exact ⟨rfl, B1.out⟩
theorem tNumber_any (s : ByteArray) (w : World) (hs : s.size ≤ 140737488355328) :
  Ct 28 #[.string s] (.float .f64 (numW (nrw 0 (us (trimS s))))) w := by
 have ht := trim_len s
 have hl := nrw_lt (z := 0) (by omega) (us (trimS s))
 have hln := nrw_size (s := trimS s) (by omega)
 obtain ⟨l, hll⟩ : ∃ l, nrw 0 (us (trimS s)) = l := ⟨_, rfl⟩
 have C2 := fun W => tnarrow_any (trimS s) W (by omega)
 rw [hll] at C2 hl hln ⊢
 have h := tNumber_walk s (trimS s) (strOf l) (strOf (nbR l)) _ _ (decide (l = [])) (hxB l) (nbB l) (decide (nbR l = [])) w (Lib.hid (fun W => trim_any s W (by unfold maxLen; omega))) (Lib.hid C2)
  (Lib.hid (fun W => thexadecimal_any l W hl hln)) (Lib.hid (fun W => tnumber_any l W (fun c hc => Nat.lt_trans (hl c hc) (by omega)) hln)) (em_iff l) (em_iff _)
 refine h.mono fun e w' x => ⟨?_, x.2⟩
 rw [x.1, numW_nb]
 simp only [decide_eq_true_eq]
 cases h1 : hxB l
 ·simp only [Bool.false_eq_true, if_false]
 ·simp only [if_true]
end Go.Proofs.YtfcpkdafkmohkaaGreatDoor
namespace Go.Proofs.YtfcpkdafkmohkaaGreatDoor
open Go.RowKit
set_option maxRecDepth 100000 in
set_option maxHeartbeats 2000000 in
theorem ydec_none (s : ByteArray) (K N : Nat) (X : Int) (w : World) (hs : s.size ≤ 281474976710656) (hK : K ≤ s.size) (hN : s.size - K = N)
  (Z1 : Hid (∀ k (h : k < s.size), k < K → (s[k]'h).toNat = 48)) (Z2 : Hid (∀ h : K < s.size, (s[K]'h).toNat ≠ 48))
  (hN0 : N = 0) :
  Ct 104 #[.string s, .int .i64 X] (.float .f64 0) w := by
 have h1 : (s.size : Int) ≤ 281474976710656 := by omega
 have HN := Lib.hid hN
 have HK := Lib.hid hK
 subst hN0
 clear hs hK hN
 go_enter Tryz.func104, Tryz.ntmps104
 go_wp2
 go_loopw [5] (fun i wr => ∃ k : Nat, i = .int .i64 k ∧ k ≤ K ∧ w = wr) (fun i _ => K - (intOf i).toNat)
 case atStart => exact ⟨0, rfl, Nat.zero_le _, rfl⟩
 case round =>
  obtain ⟨k, rfl, hk, rfl⟩ := hrel
  have hk2 := HK.out
  by_cases hlt : k < K
  ·have hks : k < s.size := by omega
   have e0 : ((s[k]'hks).toNat : Int) = 48 := by rw [Z1.out k hks hlt]; rfl
   have a2 : (k : Int) < (s.size : Int) := by omega
   have a1 : (0 : Int) ≤ (k : Int) := by omega
   clear hk2
   go_wp2
   exact ⟨⟨k + 1, by go_num, by omega, trivial⟩, by simp [intOf]; omega⟩
  ·obtain rfl : k = K := by omega
   have a2 : (s.size : Int) = (k : Int) := by have := HN.out; omega
   have a3 : (k : Int) ≤ (s.size : Int) := by omega
   have a1 : (0 : Int) ≤ (k : Int) := by omega
   have a4 : ((s.size - k : Nat) : Int) = 0 := by rw [HN.out]; rfl
   have t1 : decide ((k : Int) < (s.size : Int)) = false := decide_eq_false (by omega)
   clear hk2 a2
   go_wp2
   go_ret
   exact ⟨rfl, Below.refl _ _⟩
set_option maxRecDepth 100000 in
set_option maxHeartbeats 2000000 in
theorem ydec_high (s : ByteArray) (K N : Nat) (X P : Int) (w : World) (hs : s.size ≤ 281474976710656) (hK : K ≤ s.size) (hN : s.size - K = N)
  (Z1 : Hid (∀ k (h : k < s.size), k < K → (s[k]'h).toNat = 48)) (Z2 : Hid (∀ h : K < s.size, (s[K]'h).toNat ≠ 48))
  (hN0 : 0 < N) (p1 : wrap64 ((N : Int) + X) = P) (t0 : ((N : Int) == 0) = false) (t1 : decide (400 < P) = true) :
  Ct 104 #[.string s, .int .i64 X] (.float .f64 9218868437227405312) w := by
 have h1 : (s.size : Int) ≤ 281474976710656 := by omega
 have HN := Lib.hid hN
 have HK := Lib.hid hK
 have HN0 := Lib.hid hN0
 clear hs hK hN hN0
 go_enter Tryz.func104, Tryz.ntmps104
 go_wp2
 go_loopw [5] (fun i wr => ∃ k : Nat, i = .int .i64 k ∧ k ≤ K ∧ w = wr) (fun i _ => K - (intOf i).toNat)
 case atStart => exact ⟨0, rfl, Nat.zero_le _, rfl⟩
 case round =>
  obtain ⟨k, rfl, hk, rfl⟩ := hrel
  have hk2 := HK.out
  by_cases hlt : k < K
  ·have hks : k < s.size := by omega
   have e0 : ((s[k]'hks).toNat : Int) = 48 := by rw [Z1.out k hks hlt]; rfl
   have a2 : (k : Int) < (s.size : Int) := by omega
   have a1 : (0 : Int) ≤ (k : Int) := by omega
   clear hk2
   go_wp2
   exact ⟨⟨k + 1, by go_num, by omega, trivial⟩, by simp [intOf]; omega⟩
  ·obtain rfl : k = K := by omega
   have hz : k < s.size := by have := HN.out; have := HN0.out; omega
   obtain ⟨B, hB⟩ : ∃ B : Nat, (s[k]'hz).toNat = B := ⟨_, rfl⟩
   have hB48 := Z2.out hz
   rw [hB] at hB48
   have e0 : ((s[k]'hz).toNat : Int) = (B : Int) := by rw [hB]
   have e1 : ((B : Int) == 48) = false := by rw [beq_eq_false_iff_ne]; omega
   have a2 : (k : Int) < (s.size : Int) := by omega
   have a1 : (0 : Int) ≤ (k : Int) := by omega
   have a3 : (k : Int) ≤ (s.size : Int) := by omega
   have a4 : ((s.size - k : Nat) : Int) = (N : Int) := by rw [HN.out]
   clear hk2 hB hB48
   have C3 := Lib.hid (fun W => inf1_any W)
   go_wp2_with fail
   refine (C3.out _).mono ?_
   rintro e w' ⟨rfl, rfl⟩
   go_wp2
   go_ret
   exact ⟨rfl, Below.refl _ _⟩
set_option maxRecDepth 100000 in
set_option maxHeartbeats 2000000 in
theorem ydec_low (s : ByteArray) (K N : Nat) (X P : Int) (w : World) (hs : s.size ≤ 281474976710656) (hK : K ≤ s.size) (hN : s.size - K = N)
  (Z1 : Hid (∀ k (h : k < s.size), k < K → (s[k]'h).toNat = 48)) (Z2 : Hid (∀ h : K < s.size, (s[K]'h).toNat ≠ 48))
  (hN0 : 0 < N) (p1 : wrap64 ((N : Int) + X) = P) (t0 : ((N : Int) == 0) = false) (t1 : decide (400 < P) = false) (t2 : decide (P < -400) = true) :
  Ct 104 #[.string s, .int .i64 X] (.float .f64 0) w := by
 have h1 : (s.size : Int) ≤ 281474976710656 := by omega
 have HN := Lib.hid hN
 have HK := Lib.hid hK
 have HN0 := Lib.hid hN0
 clear hs hK hN hN0
 go_enter Tryz.func104, Tryz.ntmps104
 go_wp2
 go_loopw [5] (fun i wr => ∃ k : Nat, i = .int .i64 k ∧ k ≤ K ∧ w = wr) (fun i _ => K - (intOf i).toNat)
 case atStart => exact ⟨0, rfl, Nat.zero_le _, rfl⟩
 case round =>
  obtain ⟨k, rfl, hk, rfl⟩ := hrel
  have hk2 := HK.out
  by_cases hlt : k < K
  ·have hks : k < s.size := by omega
   have e0 : ((s[k]'hks).toNat : Int) = 48 := by rw [Z1.out k hks hlt]; rfl
   have a2 : (k : Int) < (s.size : Int) := by omega
   have a1 : (0 : Int) ≤ (k : Int) := by omega
   clear hk2
   go_wp2
   exact ⟨⟨k + 1, by go_num, by omega, trivial⟩, by simp [intOf]; omega⟩
  ·obtain rfl : k = K := by omega
   have hz : k < s.size := by have := HN.out; have := HN0.out; omega
   obtain ⟨B, hB⟩ : ∃ B : Nat, (s[k]'hz).toNat = B := ⟨_, rfl⟩
   have hB48 := Z2.out hz
   rw [hB] at hB48
   have e0 : ((s[k]'hz).toNat : Int) = (B : Int) := by rw [hB]
   have e1 : ((B : Int) == 48) = false := by rw [beq_eq_false_iff_ne]; omega
   have a2 : (k : Int) < (s.size : Int) := by omega
   have a1 : (0 : Int) ≤ (k : Int) := by omega
   have a3 : (k : Int) ≤ (s.size : Int) := by omega
   have a4 : ((s.size - k : Nat) : Int) = (N : Int) := by rw [HN.out]
   clear hk2 hB hB48
   go_wp2
   go_ret
   exact ⟨rfl, Below.refl _ _⟩
set_option maxRecDepth 100000 in
set_option maxHeartbeats 2000000 in
theorem ydec_short_pos (s : ByteArray) (K N : Nat) (X P : Int) (m F : Nat) (D M : Nat) (w : World) (hs : s.size ≤ 281474976710656) (hK : K ≤ s.size) (hN : s.size - K = N)
  (Z1 : Hid (∀ k (h : k < s.size), k < K → (s[k]'h).toNat = 48)) (Z2 : Hid (∀ h : K < s.size, (s[K]'h).toNat ≠ 48))
  (hN0 : 0 < N) (p1 : wrap64 ((N : Int) + X) = P) (t0 : ((N : Int) == 0) = false) (t1 : decide (400 < P) = false) (t2 : decide (P < -400) = false) (t3 : decide (820 < (N : Int)) = false)
  (C3 : Hid (∀ W, Cp 165 #[.string (s.extract K s.size), .int .i64 10] W (NOk m W)))
  (C4 : Hid (∀ W, Cp 115 #[.int .i64 X] W (NRet D W)))
  (C5 : Hid (∀ W A1 n1 c1 A2 n2 c2, NV W A1 n1 c1 m → NV W A2 n2 c2 D → Cp 51 #[.slice A1 n1 c1, .slice A2 n2 c2] W (NRet M W)))
  (C6 : Hid (∀ W A1 n1 c1, NV W A1 n1 c1 M → Ct 154 #[.slice A1 n1 c1, .int .i64 0] (.float .f64 F) W))
  (u0 : decide (0 ≤ X) = true) :
  Ct 104 #[.string s, .int .i64 X] (.float .f64 F) w := by
 have h1 : (s.size : Int) ≤ 281474976710656 := by omega
 have HN := Lib.hid hN
 have HK := Lib.hid hK
 have HN0 := Lib.hid hN0
 clear hs hK hN hN0
 go_enter Tryz.func104, Tryz.ntmps104
 go_wp2
 go_loopw [5] (fun i wr => ∃ k : Nat, i = .int .i64 k ∧ k ≤ K ∧ w = wr) (fun i _ => K - (intOf i).toNat)
 case atStart => exact ⟨0, rfl, Nat.zero_le _, rfl⟩
 case round =>
  obtain ⟨k, rfl, hk, rfl⟩ := hrel
  have hk2 := HK.out
  by_cases hlt : k < K
  ·have hks : k < s.size := by omega
   have e0 : ((s[k]'hks).toNat : Int) = 48 := by rw [Z1.out k hks hlt]; rfl
   have a2 : (k : Int) < (s.size : Int) := by omega
   have a1 : (0 : Int) ≤ (k : Int) := by omega
   clear hk2
   go_wp2
   exact ⟨⟨k + 1, by go_num, by omega, trivial⟩, by simp [intOf]; omega⟩
  ·obtain rfl : k = K := by omega
   have hz : k < s.size := by have := HN.out; have := HN0.out; omega
   obtain ⟨B, hB⟩ : ∃ B : Nat, (s[k]'hz).toNat = B := ⟨_, rfl⟩
   have hB48 := Z2.out hz
   rw [hB] at hB48
   have e0 : ((s[k]'hz).toNat : Int) = (B : Int) := by rw [hB]
   have e1 : ((B : Int) == 48) = false := by rw [beq_eq_false_iff_ne]; omega
   have a2 : (k : Int) < (s.size : Int) := by omega
   have a1 : (0 : Int) ≤ (k : Int) := by omega
   have a3 : (k : Int) ≤ (s.size : Int) := by omega
   have a4 : ((s.size - k : Nat) : Int) = (N : Int) := by rw [HN.out]
   clear hk2 hB hB48
   go_wp2_with fail
   refine (C3.out _).mono ?_
   rintro e w1 ⟨A1, n1, c1, rfl, g1, b1⟩
   have G1 := Lib.hid g1
   have B1 := Lib.hid b1
   clear g1 b1
   go_wp2_with fail
   refine (C4.out _).mono ?_
   rintro e w2 ⟨A2, n2, c2, rfl, g2, b2⟩
   have G2 := Lib.hid g2
   have G1a := Lib.hid (G1.out.step b2)
   have B2 := Lib.hid (below_le B1.out b2)
   clear g2 b2
   go_wp2_with fail
   refine (C5.out _ _ _ _ _ _ _ G1a.out G2.out).mono ?_
   rintro e w3 ⟨A3, n3, c3, rfl, g3, b3⟩
   have G3 := Lib.hid g3
   have B3 := Lib.hid (below_le B2.out b3)
   clear g3 b3
   go_wp2_with fail
   refine (C6.out _ _ _ _ G3.out).mono ?_
   rintro e w4 ⟨rfl, b4⟩
   have B4 := Lib.hid (below_le B3.out b4)
   clear b4
   go_wp2
   go_ret
   exact ⟨rfl, B4.out⟩
set_option maxRecDepth 100000 in
set_option maxHeartbeats 2000000 in
theorem ydec_short_neg00 (s : ByteArray) (K N : Nat) (X P : Int) (m F : Nat) (D M Q bd ba : Nat) (x1 up Y : Int) (w : World) (hs : s.size ≤ 281474976710656) (hK : K ≤ s.size) (hN : s.size - K = N)
  (Z1 : Hid (∀ k (h : k < s.size), k < K → (s[k]'h).toNat = 48)) (Z2 : Hid (∀ h : K < s.size, (s[K]'h).toNat ≠ 48))
  (hN0 : 0 < N) (p1 : wrap64 ((N : Int) + X) = P) (t0 : ((N : Int) == 0) = false) (t1 : decide (400 < P) = false) (t2 : decide (P < -400) = false) (t3 : decide (820 < (N : Int)) = false)
  (C3 : Hid (∀ W, Cp 165 #[.string (s.extract K s.size), .int .i64 10] W (NOk m W)))
  (C4 : Hid (∀ W, Cp 115 #[.int .i64 (-X)] W (NRet D W)))
  (C5 : Hid (∀ W A1 n1 c1, NV W A1 n1 c1 D → Ct 163 #[.slice A1 n1 c1] (.int .i64 (bd : Nat)) W))
  (C6 : Hid (∀ W A1 n1 c1, NV W A1 n1 c1 m → Ct 163 #[.slice A1 n1 c1] (.int .i64 (ba : Nat)) W))
  (C7 : Hid (∀ W A1 n1 c1, NV W A1 n1 c1 m → Cp 102 #[.slice A1 n1 c1, .int .i64 0] W (NRet M W)))
  (C8 : Hid (∀ W A1 n1 c1 A2 n2 c2, NV W A1 n1 c1 M → NV W A2 n2 c2 D → Cp 49 #[.slice A1 n1 c1, .slice A2 n2 c2] W (HRet M D W)))
  (C9 : Hid (∀ W A1 n1 c1, NV W A1 n1 c1 (M / D) → Cp 102 #[.slice A1 n1 c1, .int .i64 1] W (NRet Q W)))
  (C11 : Hid (∀ W A1 n1 c1, NV W A1 n1 c1 Q → Ct 154 #[.slice A1 n1 c1, .int .i64 Y] (.float .f64 F) W))
  (hrem : M % D = 0)
  (u0 : decide (0 ≤ X) = false) (u1 : wrap64 (-X) = -X) (u2 : wrap64 ((bd : Int) - (ba : Int)) = x1) (u3 : wrap64 (x1 + 70) = up) (u4 : decide (up < 0) = true) (u6 : Y = -1) :
  Ct 104 #[.string s, .int .i64 X] (.float .f64 F) w := by
 have h1 : (s.size : Int) ≤ 281474976710656 := by omega
 have HN := Lib.hid hN
 have HK := Lib.hid hK
 have HN0 := Lib.hid hN0
 have HREM := Lib.hid hrem
 subst u6
 clear hs hK hN hN0 hrem
 go_enter Tryz.func104, Tryz.ntmps104
 go_wp2
 go_loopw [5] (fun i wr => ∃ k : Nat, i = .int .i64 k ∧ k ≤ K ∧ w = wr) (fun i _ => K - (intOf i).toNat)
 case atStart => exact ⟨0, rfl, Nat.zero_le _, rfl⟩
 case round =>
  obtain ⟨k, rfl, hk, rfl⟩ := hrel
  have hk2 := HK.out
  by_cases hlt : k < K
  ·have hks : k < s.size := by omega
   have e0 : ((s[k]'hks).toNat : Int) = 48 := by rw [Z1.out k hks hlt]; rfl
   have a2 : (k : Int) < (s.size : Int) := by omega
   have a1 : (0 : Int) ≤ (k : Int) := by omega
   clear hk2
   go_wp2
   exact ⟨⟨k + 1, by go_num, by omega, trivial⟩, by simp [intOf]; omega⟩
  ·obtain rfl : k = K := by omega
   have hz : k < s.size := by have := HN.out; have := HN0.out; omega
   obtain ⟨B, hB⟩ : ∃ B : Nat, (s[k]'hz).toNat = B := ⟨_, rfl⟩
   have hB48 := Z2.out hz
   rw [hB] at hB48
   have e0 : ((s[k]'hz).toNat : Int) = (B : Int) := by rw [hB]
   have e1 : ((B : Int) == 48) = false := by rw [beq_eq_false_iff_ne]; omega
   have a2 : (k : Int) < (s.size : Int) := by omega
   have a1 : (0 : Int) ≤ (k : Int) := by omega
   have a3 : (k : Int) ≤ (s.size : Int) := by omega
   have a4 : ((s.size - k : Nat) : Int) = (N : Int) := by rw [HN.out]
   clear hk2 hB hB48
   go_wp2_with fail
   refine (C3.out _).mono ?_
   rintro e w1 ⟨A1, n1, c1, rfl, g1, b1⟩
   have G1 := Lib.hid g1
   have B1 := Lib.hid b1
   clear g1 b1
   go_wp2_with fail
   refine (C4.out _).mono ?_
   rintro e w2 ⟨A2, n2, c2, rfl, g2, b2⟩
   have G2 := Lib.hid g2
   have G1a := Lib.hid (G1.out.step b2)
   have B2 := Lib.hid (below_le B1.out b2)
   clear g2 b2
   go_wp2_with fail
   refine (C5.out _ _ _ _ G2.out).mono ?_
   rintro e w3 ⟨rfl, b3⟩
   have G2a := Lib.hid (G2.out.step b3)
   have G1b := Lib.hid (G1a.out.step b3)
   have B3 := Lib.hid (below_le B2.out b3)
   clear b3
   go_wp2_with fail
   refine (C6.out _ _ _ _ G1b.out).mono ?_
   rintro e w4 ⟨rfl, b4⟩
   have G2b := Lib.hid (G2a.out.step b4)
   have G1c := Lib.hid (G1b.out.step b4)
   have B4 := Lib.hid (below_le B3.out b4)
   clear b4
   go_wp2_with fail
   refine (C7.out _ _ _ _ G1c.out).mono ?_
   rintro e w5 ⟨A5, n5, c5, rfl, g5, b5⟩
   have G5 := Lib.hid g5
   have G25 := Lib.hid (G2b.out.step b5)
   have B5 := Lib.hid (below_le B4.out b5)
   clear g5 b5
   go_wp2_with fail
   refine (C8.out _ _ _ _ _ _ _ G5.out G25.out).mono ?_
   rintro e w6 ⟨A6, n6, c6, A7, n7, c7, rfl, g6, g7, b6⟩
   have G6 := Lib.hid g6
   have B6 := Lib.hid (below_le B5.out b6)
   obtain rfl : n7 = 0 := by
    have h1 := g7.len
    rw [HREM.out] at h1
    exact h1.symm
   clear g6 g7 b6
   go_wp2_with fail
   refine (C9.out _ _ _ _ G6.out).mono ?_
   rintro e w7 ⟨A8, n8, c8, rfl, g8, b7⟩
   have G8 := Lib.hid g8
   have B7 := Lib.hid (below_le B6.out b7)
   clear g8 b7
   go_wp2_with fail
   refine (C11.out _ _ _ _ G8.out).mono ?_
   rintro e w9 ⟨rfl, b9⟩
   have B9 := Lib.hid (below_le B7.out b9)
   clear b9
   go_wp2
   go_ret
   exact ⟨rfl, B9.out⟩
set_option maxRecDepth 100000 in
set_option maxHeartbeats 2000000 in
theorem ydec_short_neg01 (s : ByteArray) (K N : Nat) (X P : Int) (m F : Nat) (D M Q Q2 bd ba : Nat) (x1 up Y : Int) (w : World) (hs : s.size ≤ 281474976710656) (hK : K ≤ s.size) (hN : s.size - K = N)
  (Z1 : Hid (∀ k (h : k < s.size), k < K → (s[k]'h).toNat = 48)) (Z2 : Hid (∀ h : K < s.size, (s[K]'h).toNat ≠ 48))
  (hN0 : 0 < N) (p1 : wrap64 ((N : Int) + X) = P) (t0 : ((N : Int) == 0) = false) (t1 : decide (400 < P) = false) (t2 : decide (P < -400) = false) (t3 : decide (820 < (N : Int)) = false)
  (C3 : Hid (∀ W, Cp 165 #[.string (s.extract K s.size), .int .i64 10] W (NOk m W)))
  (C4 : Hid (∀ W, Cp 115 #[.int .i64 (-X)] W (NRet D W)))
  (C5 : Hid (∀ W A1 n1 c1, NV W A1 n1 c1 D → Ct 163 #[.slice A1 n1 c1] (.int .i64 (bd : Nat)) W))
  (C6 : Hid (∀ W A1 n1 c1, NV W A1 n1 c1 m → Ct 163 #[.slice A1 n1 c1] (.int .i64 (ba : Nat)) W))
  (C7 : Hid (∀ W A1 n1 c1, NV W A1 n1 c1 m → Cp 102 #[.slice A1 n1 c1, .int .i64 0] W (NRet M W)))
  (C8 : Hid (∀ W A1 n1 c1 A2 n2 c2, NV W A1 n1 c1 M → NV W A2 n2 c2 D → Cp 49 #[.slice A1 n1 c1, .slice A2 n2 c2] W (HRet M D W)))
  (C9 : Hid (∀ W A1 n1 c1, NV W A1 n1 c1 (M / D) → Cp 102 #[.slice A1 n1 c1, .int .i64 1] W (NRet Q W)))
  (C10 : Hid (∀ W A1 n1 c1 A2 n2 c2, NV W A1 n1 c1 Q → NV W A2 n2 c2 1 → Cp 103 #[.slice A1 n1 c1, .slice A2 n2 c2] W (NRet Q2 W)))
  (C11 : Hid (∀ W A1 n1 c1, NV W A1 n1 c1 Q2 → Ct 154 #[.slice A1 n1 c1, .int .i64 Y] (.float .f64 F) W))
  (hrem : M % D ≠ 0)
  (u0 : decide (0 ≤ X) = false) (u1 : wrap64 (-X) = -X) (u2 : wrap64 ((bd : Int) - (ba : Int)) = x1) (u3 : wrap64 (x1 + 70) = up) (u4 : decide (up < 0) = true) (u6 : Y = -1) :
  Ct 104 #[.string s, .int .i64 X] (.float .f64 F) w := by
 have h1 : (s.size : Int) ≤ 281474976710656 := by omega
 have HN := Lib.hid hN
 have HK := Lib.hid hK
 have HN0 := Lib.hid hN0
 have HREM := Lib.hid hrem
 subst u6
 clear hs hK hN hN0 hrem
 go_enter Tryz.func104, Tryz.ntmps104
 go_wp2
 go_loopw [5] (fun i wr => ∃ k : Nat, i = .int .i64 k ∧ k ≤ K ∧ w = wr) (fun i _ => K - (intOf i).toNat)
 case atStart => exact ⟨0, rfl, Nat.zero_le _, rfl⟩
 case round =>
  obtain ⟨k, rfl, hk, rfl⟩ := hrel
  have hk2 := HK.out
  by_cases hlt : k < K
  ·have hks : k < s.size := by omega
   have e0 : ((s[k]'hks).toNat : Int) = 48 := by rw [Z1.out k hks hlt]; rfl
   have a2 : (k : Int) < (s.size : Int) := by omega
   have a1 : (0 : Int) ≤ (k : Int) := by omega
   clear hk2
   go_wp2
   exact ⟨⟨k + 1, by go_num, by omega, trivial⟩, by simp [intOf]; omega⟩
  ·obtain rfl : k = K := by omega
   have hz : k < s.size := by have := HN.out; have := HN0.out; omega
   obtain ⟨B, hB⟩ : ∃ B : Nat, (s[k]'hz).toNat = B := ⟨_, rfl⟩
   have hB48 := Z2.out hz
   rw [hB] at hB48
   have e0 : ((s[k]'hz).toNat : Int) = (B : Int) := by rw [hB]
   have e1 : ((B : Int) == 48) = false := by rw [beq_eq_false_iff_ne]; omega
   have a2 : (k : Int) < (s.size : Int) := by omega
   have a1 : (0 : Int) ≤ (k : Int) := by omega
   have a3 : (k : Int) ≤ (s.size : Int) := by omega
   have a4 : ((s.size - k : Nat) : Int) = (N : Int) := by rw [HN.out]
   clear hk2 hB hB48
   go_wp2_with fail
   refine (C3.out _).mono ?_
   rintro e w1 ⟨A1, n1, c1, rfl, g1, b1⟩
   have G1 := Lib.hid g1
   have B1 := Lib.hid b1
   clear g1 b1
   go_wp2_with fail
   refine (C4.out _).mono ?_
   rintro e w2 ⟨A2, n2, c2, rfl, g2, b2⟩
   have G2 := Lib.hid g2
   have G1a := Lib.hid (G1.out.step b2)
   have B2 := Lib.hid (below_le B1.out b2)
   clear g2 b2
   go_wp2_with fail
   refine (C5.out _ _ _ _ G2.out).mono ?_
   rintro e w3 ⟨rfl, b3⟩
   have G2a := Lib.hid (G2.out.step b3)
   have G1b := Lib.hid (G1a.out.step b3)
   have B3 := Lib.hid (below_le B2.out b3)
   clear b3
   go_wp2_with fail
   refine (C6.out _ _ _ _ G1b.out).mono ?_
   rintro e w4 ⟨rfl, b4⟩
   have G2b := Lib.hid (G2a.out.step b4)
   have G1c := Lib.hid (G1b.out.step b4)
   have B4 := Lib.hid (below_le B3.out b4)
   clear b4
   go_wp2_with fail
   refine (C7.out _ _ _ _ G1c.out).mono ?_
   rintro e w5 ⟨A5, n5, c5, rfl, g5, b5⟩
   have G5 := Lib.hid g5
   have G25 := Lib.hid (G2b.out.step b5)
   have B5 := Lib.hid (below_le B4.out b5)
   clear g5 b5
   go_wp2_with fail
   refine (C8.out _ _ _ _ _ _ _ G5.out G25.out).mono ?_
   rintro e w6 ⟨A6, n6, c6, A7, n7, c7, rfl, g6, g7, b6⟩
   have G6 := Lib.hid g6
   have B6 := Lib.hid (below_le B5.out b6)
   have hn7 : (0 : Int) < (n7 : Int) := by
    have h1 := g7.len
    have h2 : (wds (M % D)) ≠ [] := fun e => HREM.out (by have h3 := wds_val (M % D); rw [e] at h3; exact h3.symm)
    have := List.length_pos_iff.2 h2
    omega
   clear g6 g7 b6
   go_wp2_with fail
   refine (C9.out _ _ _ _ G6.out).mono ?_
   rintro e w7 ⟨A8, n8, c8, rfl, g8, b7⟩
   have G8 := Lib.hid g8
   have B7 := Lib.hid (below_le B6.out b7)
   clear g8 b7
   have bl := Lib.hid (show Below w7.heap.size w7 (w7.alloc (.cells #[.int .u32 1] 42)) from (Below.refl _ _).alloc (Nat.le_refl _) _)
   have C10' := Lib.hid (C10.out _ _ _ _ _ _ _ (G8.out.step bl.out) (NV.lit w7 1 (by omega) (by omega)))
   go_wp2_with fail
   refine C10'.out.mono ?_
   rintro e w8 ⟨A9, n9, c9, rfl, g9, b8⟩
   have G9 := Lib.hid g9
   have B8 := Lib.hid (below_le (below_le B7.out bl.out) b8)
   clear g9 b8
   go_wp2_with fail
   refine (C11.out _ _ _ _ G9.out).mono ?_
   rintro e w9 ⟨rfl, b9⟩
   have B9 := Lib.hid (below_le B8.out b9)
   clear b9
   go_wp2
   go_ret
   exact ⟨rfl, B9.out⟩
set_option maxRecDepth 100000 in
set_option maxHeartbeats 2000000 in
theorem ydec_short_neg10 (s : ByteArray) (K N : Nat) (X P : Int) (m F : Nat) (D M Q bd ba : Nat) (x1 up x2 Y : Int) (w : World) (hs : s.size ≤ 281474976710656) (hK : K ≤ s.size) (hN : s.size - K = N)
  (Z1 : Hid (∀ k (h : k < s.size), k < K → (s[k]'h).toNat = 48)) (Z2 : Hid (∀ h : K < s.size, (s[K]'h).toNat ≠ 48))
  (hN0 : 0 < N) (p1 : wrap64 ((N : Int) + X) = P) (t0 : ((N : Int) == 0) = false) (t1 : decide (400 < P) = false) (t2 : decide (P < -400) = false) (t3 : decide (820 < (N : Int)) = false)
  (C3 : Hid (∀ W, Cp 165 #[.string (s.extract K s.size), .int .i64 10] W (NOk m W)))
  (C4 : Hid (∀ W, Cp 115 #[.int .i64 (-X)] W (NRet D W)))
  (C5 : Hid (∀ W A1 n1 c1, NV W A1 n1 c1 D → Ct 163 #[.slice A1 n1 c1] (.int .i64 (bd : Nat)) W))
  (C6 : Hid (∀ W A1 n1 c1, NV W A1 n1 c1 m → Ct 163 #[.slice A1 n1 c1] (.int .i64 (ba : Nat)) W))
  (C7 : Hid (∀ W A1 n1 c1, NV W A1 n1 c1 m → Cp 102 #[.slice A1 n1 c1, .int .i64 up] W (NRet M W)))
  (C8 : Hid (∀ W A1 n1 c1 A2 n2 c2, NV W A1 n1 c1 M → NV W A2 n2 c2 D → Cp 49 #[.slice A1 n1 c1, .slice A2 n2 c2] W (HRet M D W)))
  (C9 : Hid (∀ W A1 n1 c1, NV W A1 n1 c1 (M / D) → Cp 102 #[.slice A1 n1 c1, .int .i64 1] W (NRet Q W)))
  (C11 : Hid (∀ W A1 n1 c1, NV W A1 n1 c1 Q → Ct 154 #[.slice A1 n1 c1, .int .i64 Y] (.float .f64 F) W))
  (hrem : M % D = 0)
  (u0 : decide (0 ≤ X) = false) (u1 : wrap64 (-X) = -X) (u2 : wrap64 ((bd : Int) - (ba : Int)) = x1) (u3 : wrap64 (x1 + 70) = up) (u4 : decide (up < 0) = false) (u5 : wrap64 (-up) = x2) (u6 : wrap64 (x2 - 1) = Y) :
  Ct 104 #[.string s, .int .i64 X] (.float .f64 F) w := by
 have h1 : (s.size : Int) ≤ 281474976710656 := by omega
 have HN := Lib.hid hN
 have HK := Lib.hid hK
 have HN0 := Lib.hid hN0
 have HREM := Lib.hid hrem
 clear hs hK hN hN0 hrem
 go_enter Tryz.func104, Tryz.ntmps104
 go_wp2
 go_loopw [5] (fun i wr => ∃ k : Nat, i = .int .i64 k ∧ k ≤ K ∧ w = wr) (fun i _ => K - (intOf i).toNat)
 case atStart => exact ⟨0, rfl, Nat.zero_le _, rfl⟩
 case round =>
  obtain ⟨k, rfl, hk, rfl⟩ := hrel
  have hk2 := HK.out
  by_cases hlt : k < K
  ·have hks : k < s.size := by omega
   have e0 : ((s[k]'hks).toNat : Int) = 48 := by rw [Z1.out k hks hlt]; rfl
   have a2 : (k : Int) < (s.size : Int) := by omega
   have a1 : (0 : Int) ≤ (k : Int) := by omega
   clear hk2
   go_wp2
   exact ⟨⟨k + 1, by go_num, by omega, trivial⟩, by simp [intOf]; omega⟩
  ·obtain rfl : k = K := by omega
   have hz : k < s.size := by have := HN.out; have := HN0.out; omega
   obtain ⟨B, hB⟩ : ∃ B : Nat, (s[k]'hz).toNat = B := ⟨_, rfl⟩
   have hB48 := Z2.out hz
   rw [hB] at hB48
   have e0 : ((s[k]'hz).toNat : Int) = (B : Int) := by rw [hB]
   have e1 : ((B : Int) == 48) = false := by rw [beq_eq_false_iff_ne]; omega
   have a2 : (k : Int) < (s.size : Int) := by omega
   have a1 : (0 : Int) ≤ (k : Int) := by omega
   have a3 : (k : Int) ≤ (s.size : Int) := by omega
   have a4 : ((s.size - k : Nat) : Int) = (N : Int) := by rw [HN.out]
   clear hk2 hB hB48
   go_wp2_with fail
   refine (C3.out _).mono ?_
   rintro e w1 ⟨A1, n1, c1, rfl, g1, b1⟩
   have G1 := Lib.hid g1
   have B1 := Lib.hid b1
   clear g1 b1
   go_wp2_with fail
   refine (C4.out _).mono ?_
   rintro e w2 ⟨A2, n2, c2, rfl, g2, b2⟩
   have G2 := Lib.hid g2
   have G1a := Lib.hid (G1.out.step b2)
   have B2 := Lib.hid (below_le B1.out b2)
   clear g2 b2
   go_wp2_with fail
   refine (C5.out _ _ _ _ G2.out).mono ?_
   rintro e w3 ⟨rfl, b3⟩
   have G2a := Lib.hid (G2.out.step b3)
   have G1b := Lib.hid (G1a.out.step b3)
   have B3 := Lib.hid (below_le B2.out b3)
   clear b3
   go_wp2_with fail
   refine (C6.out _ _ _ _ G1b.out).mono ?_
   rintro e w4 ⟨rfl, b4⟩
   have G2b := Lib.hid (G2a.out.step b4)
   have G1c := Lib.hid (G1b.out.step b4)
   have B4 := Lib.hid (below_le B3.out b4)
   clear b4
   go_wp2_with fail
   refine (C7.out _ _ _ _ G1c.out).mono ?_
   rintro e w5 ⟨A5, n5, c5, rfl, g5, b5⟩
   have G5 := Lib.hid g5
   have G25 := Lib.hid (G2b.out.step b5)
   have B5 := Lib.hid (below_le B4.out b5)
   clear g5 b5
   go_wp2_with fail
   refine (C8.out _ _ _ _ _ _ _ G5.out G25.out).mono ?_
   rintro e w6 ⟨A6, n6, c6, A7, n7, c7, rfl, g6, g7, b6⟩
   have G6 := Lib.hid g6
   have B6 := Lib.hid (below_le B5.out b6)
   obtain rfl : n7 = 0 := by
    have h1 := g7.len
    rw [HREM.out] at h1
    exact h1.symm
   clear g6 g7 b6
   go_wp2_with fail
   refine (C9.out _ _ _ _ G6.out).mono ?_
   rintro e w7 ⟨A8, n8, c8, rfl, g8, b7⟩
   have G8 := Lib.hid g8
   have B7 := Lib.hid (below_le B6.out b7)
   clear g8 b7
   go_wp2_with fail
   refine (C11.out _ _ _ _ G8.out).mono ?_
   rintro e w9 ⟨rfl, b9⟩
   have B9 := Lib.hid (below_le B7.out b9)
   clear b9
   go_wp2
   go_ret
   exact ⟨rfl, B9.out⟩
set_option maxRecDepth 100000 in
set_option maxHeartbeats 2000000 in
theorem ydec_short_neg11 (s : ByteArray) (K N : Nat) (X P : Int) (m F : Nat) (D M Q Q2 bd ba : Nat) (x1 up x2 Y : Int) (w : World) (hs : s.size ≤ 281474976710656) (hK : K ≤ s.size) (hN : s.size - K = N)
  (Z1 : Hid (∀ k (h : k < s.size), k < K → (s[k]'h).toNat = 48)) (Z2 : Hid (∀ h : K < s.size, (s[K]'h).toNat ≠ 48))
  (hN0 : 0 < N) (p1 : wrap64 ((N : Int) + X) = P) (t0 : ((N : Int) == 0) = false) (t1 : decide (400 < P) = false) (t2 : decide (P < -400) = false) (t3 : decide (820 < (N : Int)) = false)
  (C3 : Hid (∀ W, Cp 165 #[.string (s.extract K s.size), .int .i64 10] W (NOk m W)))
  (C4 : Hid (∀ W, Cp 115 #[.int .i64 (-X)] W (NRet D W)))
  (C5 : Hid (∀ W A1 n1 c1, NV W A1 n1 c1 D → Ct 163 #[.slice A1 n1 c1] (.int .i64 (bd : Nat)) W))
  (C6 : Hid (∀ W A1 n1 c1, NV W A1 n1 c1 m → Ct 163 #[.slice A1 n1 c1] (.int .i64 (ba : Nat)) W))
  (C7 : Hid (∀ W A1 n1 c1, NV W A1 n1 c1 m → Cp 102 #[.slice A1 n1 c1, .int .i64 up] W (NRet M W)))
  (C8 : Hid (∀ W A1 n1 c1 A2 n2 c2, NV W A1 n1 c1 M → NV W A2 n2 c2 D → Cp 49 #[.slice A1 n1 c1, .slice A2 n2 c2] W (HRet M D W)))
  (C9 : Hid (∀ W A1 n1 c1, NV W A1 n1 c1 (M / D) → Cp 102 #[.slice A1 n1 c1, .int .i64 1] W (NRet Q W)))
  (C10 : Hid (∀ W A1 n1 c1 A2 n2 c2, NV W A1 n1 c1 Q → NV W A2 n2 c2 1 → Cp 103 #[.slice A1 n1 c1, .slice A2 n2 c2] W (NRet Q2 W)))
  (C11 : Hid (∀ W A1 n1 c1, NV W A1 n1 c1 Q2 → Ct 154 #[.slice A1 n1 c1, .int .i64 Y] (.float .f64 F) W))
  (hrem : M % D ≠ 0)
  (u0 : decide (0 ≤ X) = false) (u1 : wrap64 (-X) = -X) (u2 : wrap64 ((bd : Int) - (ba : Int)) = x1) (u3 : wrap64 (x1 + 70) = up) (u4 : decide (up < 0) = false) (u5 : wrap64 (-up) = x2) (u6 : wrap64 (x2 - 1) = Y) :
  Ct 104 #[.string s, .int .i64 X] (.float .f64 F) w := by
 have h1 : (s.size : Int) ≤ 281474976710656 := by omega
 have HN := Lib.hid hN
 have HK := Lib.hid hK
 have HN0 := Lib.hid hN0
 have HREM := Lib.hid hrem
 clear hs hK hN hN0 hrem
 go_enter Tryz.func104, Tryz.ntmps104
 go_wp2
 go_loopw [5] (fun i wr => ∃ k : Nat, i = .int .i64 k ∧ k ≤ K ∧ w = wr) (fun i _ => K - (intOf i).toNat)
 case atStart => exact ⟨0, rfl, Nat.zero_le _, rfl⟩
 case round =>
  obtain ⟨k, rfl, hk, rfl⟩ := hrel
  have hk2 := HK.out
  by_cases hlt : k < K
  ·have hks : k < s.size := by omega
   have e0 : ((s[k]'hks).toNat : Int) = 48 := by rw [Z1.out k hks hlt]; rfl
   have a2 : (k : Int) < (s.size : Int) := by omega
   have a1 : (0 : Int) ≤ (k : Int) := by omega
   clear hk2
   go_wp2
   exact ⟨⟨k + 1, by go_num, by omega, trivial⟩, by simp [intOf]; omega⟩
  ·obtain rfl : k = K := by omega
   have hz : k < s.size := by have := HN.out; have := HN0.out; omega
   obtain ⟨B, hB⟩ : ∃ B : Nat, (s[k]'hz).toNat = B := ⟨_, rfl⟩
   have hB48 := Z2.out hz
   rw [hB] at hB48
   have e0 : ((s[k]'hz).toNat : Int) = (B : Int) := by rw [hB]
   have e1 : ((B : Int) == 48) = false := by rw [beq_eq_false_iff_ne]; omega
   have a2 : (k : Int) < (s.size : Int) := by omega
   have a1 : (0 : Int) ≤ (k : Int) := by omega
   have a3 : (k : Int) ≤ (s.size : Int) := by omega
   have a4 : ((s.size - k : Nat) : Int) = (N : Int) := by rw [HN.out]
   clear hk2 hB hB48
   go_wp2_with fail
   refine (C3.out _).mono ?_
   rintro e w1 ⟨A1, n1, c1, rfl, g1, b1⟩
   have G1 := Lib.hid g1
   have B1 := Lib.hid b1
   clear g1 b1
   go_wp2_with fail
   refine (C4.out _).mono ?_
   rintro e w2 ⟨A2, n2, c2, rfl, g2, b2⟩
   have G2 := Lib.hid g2
   have G1a := Lib.hid (G1.out.step b2)
   have B2 := Lib.hid (below_le B1.out b2)
   clear g2 b2
   go_wp2_with fail
   refine (C5.out _ _ _ _ G2.out).mono ?_
   rintro e w3 ⟨rfl, b3⟩
   have G2a := Lib.hid (G2.out.step b3)
   have G1b := Lib.hid (G1a.out.step b3)
   have B3 := Lib.hid (below_le B2.out b3)
   clear b3
   go_wp2_with fail
   refine (C6.out _ _ _ _ G1b.out).mono ?_
   rintro e w4 ⟨rfl, b4⟩
   have G2b := Lib.hid (G2a.out.step b4)
   have G1c := Lib.hid (G1b.out.step b4)
   have B4 := Lib.hid (below_le B3.out b4)
   clear b4
   go_wp2_with fail
   refine (C7.out _ _ _ _ G1c.out).mono ?_
   rintro e w5 ⟨A5, n5, c5, rfl, g5, b5⟩
   have G5 := Lib.hid g5
   have G25 := Lib.hid (G2b.out.step b5)
   have B5 := Lib.hid (below_le B4.out b5)
   clear g5 b5
   go_wp2_with fail
   refine (C8.out _ _ _ _ _ _ _ G5.out G25.out).mono ?_
   rintro e w6 ⟨A6, n6, c6, A7, n7, c7, rfl, g6, g7, b6⟩
   have G6 := Lib.hid g6
   have B6 := Lib.hid (below_le B5.out b6)
   have hn7 : (0 : Int) < (n7 : Int) := by
    have h1 := g7.len
    have h2 : (wds (M % D)) ≠ [] := fun e => HREM.out (by have h3 := wds_val (M % D); rw [e] at h3; exact h3.symm)
    have := List.length_pos_iff.2 h2
    omega
   clear g6 g7 b6
   go_wp2_with fail
   refine (C9.out _ _ _ _ G6.out).mono ?_
   rintro e w7 ⟨A8, n8, c8, rfl, g8, b7⟩
   have G8 := Lib.hid g8
   have B7 := Lib.hid (below_le B6.out b7)
   clear g8 b7
   have bl := Lib.hid (show Below w7.heap.size w7 (w7.alloc (.cells #[.int .u32 1] 42)) from (Below.refl _ _).alloc (Nat.le_refl _) _)
   have C10' := Lib.hid (C10.out _ _ _ _ _ _ _ (G8.out.step bl.out) (NV.lit w7 1 (by omega) (by omega)))
   go_wp2_with fail
   refine C10'.out.mono ?_
   rintro e w8 ⟨A9, n9, c9, rfl, g9, b8⟩
   have G9 := Lib.hid g9
   have B8 := Lib.hid (below_le (below_le B7.out bl.out) b8)
   clear g9 b8
   go_wp2_with fail
   refine (C11.out _ _ _ _ G9.out).mono ?_
   rintro e w9 ⟨rfl, b9⟩
   have B9 := Lib.hid (below_le B8.out b9)
   clear b9
   go_wp2
   go_ret
   exact ⟨rfl, B9.out⟩

end Go.Proofs.YtfcpkdafkmohkaaGreatDoor
namespace Go.Proofs.YtfcpkdafkmohkaaGreatDoor
open Go.RowKit
set_option maxRecDepth 100000 in
set_option maxHeartbeats 2000000 in
theorem ydec_longn_pos (s : ByteArray) (K N : Nat) (X P : Int) (m F : Nat) (D M : Nat) (g : ByteArray) (y1 : Int) (E : Int) (w : World) (hs : s.size ≤ 281474976710656) (hK : K ≤ s.size) (hN : s.size - K = N)
  (Z1 : Hid (∀ k (h : k < s.size), k < K → (s[k]'h).toNat = 48)) (Z2 : Hid (∀ h : K < s.size, (s[K]'h).toNat ≠ 48))
  (hN0 : 0 < N) (p1 : wrap64 ((N : Int) + X) = P) (t0 : ((N : Int) == 0) = false) (t1 : decide (400 < P) = false) (t2 : decide (P < -400) = false) (t3 : decide (820 < (N : Int)) = true)
  (hg : s.extract K s.size = g) (hgN : g.size = N) (hN8 : 820 < N) (hrb : ((bl g).drop 810).any (· != 48) = false)
  (q0 : wrap64 (X + (N : Int)) = y1) (q1 : wrap64 (y1 - 810) = E)
  (C3 : Hid (∀ W, Cp 165 #[.string (g.extract 0 810), .int .i64 10] W (NOk m W)))
  (C4 : Hid (∀ W, Cp 115 #[.int .i64 E] W (NRet D W)))
  (C5 : Hid (∀ W A1 n1 c1 A2 n2 c2, NV W A1 n1 c1 m → NV W A2 n2 c2 D → Cp 51 #[.slice A1 n1 c1, .slice A2 n2 c2] W (NRet M W)))
  (C6 : Hid (∀ W A1 n1 c1, NV W A1 n1 c1 M → Ct 154 #[.slice A1 n1 c1, .int .i64 0] (.float .f64 F) W))
  (u0 : decide (0 ≤ E) = true) :
  Ct 104 #[.string s, .int .i64 X] (.float .f64 F) w := by
 have h1 : (s.size : Int) ≤ 281474976710656 := by omega
 have HN := Lib.hid hN
 have HK := Lib.hid hK
 have HN0 := Lib.hid hN0
 have HG := Lib.hid hg
 have HGN := Lib.hid hgN
 have HN8 := Lib.hid hN8
 have HRB := Lib.hid hrb
 clear hs hK hN hN0 hg hgN hN8 hrb
 go_enter Tryz.func104, Tryz.ntmps104
 go_wp2
 go_loopw [5] (fun i wr => ∃ k : Nat, i = .int .i64 k ∧ k ≤ K ∧ w = wr) (fun i _ => K - (intOf i).toNat)
 case atStart => exact ⟨0, rfl, Nat.zero_le _, rfl⟩
 case round =>
  obtain ⟨k, rfl, hk, rfl⟩ := hrel
  have hk2 := HK.out
  by_cases hlt : k < K
  ·have hks : k < s.size := by omega
   have e0 : ((s[k]'hks).toNat : Int) = 48 := by rw [Z1.out k hks hlt]; rfl
   have a2 : (k : Int) < (s.size : Int) := by omega
   have a1 : (0 : Int) ≤ (k : Int) := by omega
   clear hk2
   go_wp2
   exact ⟨⟨k + 1, by go_num, by omega, trivial⟩, by simp [intOf]; omega⟩
  ·obtain rfl : k = K := by omega
   have hz : k < s.size := by have := HN.out; have := HN0.out; omega
   obtain ⟨B, hB⟩ : ∃ B : Nat, (s[k]'hz).toNat = B := ⟨_, rfl⟩
   have hB48 := Z2.out hz
   rw [hB] at hB48
   have e0 : ((s[k]'hz).toNat : Int) = (B : Int) := by rw [hB]
   have e1 : ((B : Int) == 48) = false := by rw [beq_eq_false_iff_ne]; omega
   have a2 : (k : Int) < (s.size : Int) := by omega
   have a1 : (0 : Int) ≤ (k : Int) := by omega
   have a3 : (k : Int) ≤ (s.size : Int) := by omega
   have a4 : ((s.size - k : Nat) : Int) = (N : Int) := by rw [HN.out]
   clear hk2 hB hB48
   have hext : s.extract k s.size = g := HG.out
   have b4 : (g.size : Int) = (N : Int) := by rw [HGN.out]
   go_wp2
   clear a1 a2 a3 e0 e1 hext hz b4
   go_loopw [6, 7] (fun v i wr => ∃ j : Nat, i = .int .i64 (810 + (j : Int)) ∧ 810 + j ≤ N ∧ v = .bool ((((bl g).drop 810).take j).any (· != 48)) ∧ w = wr) (fun _ i _ => N - (intOf i).toNat)
   case atStart => exact ⟨0, rfl, by have := HN8.out; omega, rfl, rfl⟩
   case round =>
    obtain ⟨j, rfl, hj, rfl, rfl⟩ := hrel
    by_cases hjl : 810 + j < N
    ·have hgs : 810 + j < g.size := by rw [HGN.out]; exact hjl
     obtain ⟨D8, hD8⟩ : ∃ D8 : Nat, (g[810 + j]'hgs).toNat = D8 := ⟨_, rfl⟩
     have hstep : (((bl g).drop 810).take (j + 1)).any (· != 48) = ((((bl g).drop 810).take j).any (· != 48) || (D8 != 48)) := by
      rw [List.take_add_one, List.getElem?_drop, bl_get g (810 + j) hgs, hD8, List.any_append]
      simp
     have b0 : ((810 + (j : Int)) : Int) < (N : Int) := by omega
     have b1 : (0 : Int) ≤ 810 + (j : Int) := by omega
     have b2 : (810 + (j : Int)).toNat = 810 + j := by omega
     have b3 : ((g[810 + j]'hgs).toNat : Int) = (D8 : Int) := by rw [hD8]
     have b4 : (g.size : Int) = (N : Int) := by rw [HGN.out]
     have b5 : 810 + (j : Int) < (g.size : Int) := by omega
     obtain ⟨r, hr⟩ : ∃ r, (((bl g).drop 810).take j).any (· != 48) = r := ⟨_, rfl⟩
     rw [hr] at hstep ⊢
     have HST := Lib.hid hstep
     clear hstep hr hD8
     cases r
     ·cases h48 : (D8 != 48)
      ·have b6 : ((D8 : Int) != 48) = false := by rw [bne_eq_false_iff_eq]; have := bne_eq_false_iff_eq.1 h48; omega
       have HS2 := Lib.hid (show (((bl g).drop 810).take (j + 1)).any (· != 48) = false from by rw [HST.out, h48]; rfl)
       clear h48
       go_wp2
       exact ⟨⟨j + 1, by go_num, by omega, by rw [HS2.out], trivial⟩, by simp [intOf]; omega⟩
      ·have b6 : ((D8 : Int) != 48) = true := by rw [bne_iff_ne]; have := bne_iff_ne.1 h48; omega
       have HS2 := Lib.hid (show (((bl g).drop 810).take (j + 1)).any (· != 48) = true from by rw [HST.out, h48]; rfl)
       clear h48
       go_wp2
       exact ⟨⟨j + 1, by go_num, by omega, by rw [HS2.out], trivial⟩, by simp [intOf]; omega⟩
     ·have HS2 := Lib.hid (show (((bl g).drop 810).take (j + 1)).any (· != 48) = true from by rw [HST.out]; rfl)
      go_wp2
      exact ⟨⟨j + 1, by go_num, by omega, by rw [HS2.out], trivial⟩, by simp [intOf]; omega⟩
    ·have hz2 : (((bl g).drop 810).take j).any (· != 48) = false := by
      rw [List.take_of_length_le (by rw [List.length_drop, bl_size, HGN.out]; omega)]
      exact HRB.out
     rw [hz2]
     have b4 : (g.size : Int) = (N : Int) := by rw [HGN.out]
     have b0 : decide (810 + (j : Int) < (N : Int)) = false := decide_eq_false (by omega)
     have b5 : (810 : Int) ≤ (g.size : Int) := by have := HN8.out; omega
     clear hz2
     go_wp2_with fail
     refine (C3.out _).mono ?_
     rintro e w1 ⟨A1, n1, c1, rfl, g1, b1⟩
     have G1 := Lib.hid g1
     have B1 := Lib.hid b1
     clear g1 b1
     go_wp2_with fail
     refine (C4.out _).mono ?_
     rintro e w2 ⟨A2, n2, c2, rfl, g2, b2⟩
     have G2 := Lib.hid g2
     have G1a := Lib.hid (G1.out.step b2)
     have B2 := Lib.hid (below_le B1.out b2)
     clear g2 b2
     go_wp2_with fail
     refine (C5.out _ _ _ _ _ _ _ G1a.out G2.out).mono ?_
     rintro e w3 ⟨A3, n3, c3, rfl, g3, b3⟩
     have G3 := Lib.hid g3
     have B3 := Lib.hid (below_le B2.out b3)
     clear g3 b3
     go_wp2_with fail
     refine (C6.out _ _ _ _ G3.out).mono ?_
     rintro e w4 ⟨rfl, b4⟩
     have B4 := Lib.hid (below_le B3.out b4)
     clear b4
     go_wp2
     go_ret
     exact ⟨rfl, B4.out⟩
set_option maxRecDepth 100000 in
set_option maxHeartbeats 2000000 in
theorem ydec_longn_neg00 (s : ByteArray) (K N : Nat) (X P : Int) (m F : Nat) (D M Q bd ba : Nat) (x1 up Y : Int) (g : ByteArray) (y1 : Int) (E : Int) (w : World) (hs : s.size ≤ 281474976710656) (hK : K ≤ s.size) (hN : s.size - K = N)
  (Z1 : Hid (∀ k (h : k < s.size), k < K → (s[k]'h).toNat = 48)) (Z2 : Hid (∀ h : K < s.size, (s[K]'h).toNat ≠ 48))
  (hN0 : 0 < N) (p1 : wrap64 ((N : Int) + X) = P) (t0 : ((N : Int) == 0) = false) (t1 : decide (400 < P) = false) (t2 : decide (P < -400) = false) (t3 : decide (820 < (N : Int)) = true)
  (hg : s.extract K s.size = g) (hgN : g.size = N) (hN8 : 820 < N) (hrb : ((bl g).drop 810).any (· != 48) = false)
  (q0 : wrap64 (X + (N : Int)) = y1) (q1 : wrap64 (y1 - 810) = E)
  (C3 : Hid (∀ W, Cp 165 #[.string (g.extract 0 810), .int .i64 10] W (NOk m W)))
  (C4 : Hid (∀ W, Cp 115 #[.int .i64 (-E)] W (NRet D W)))
  (C5 : Hid (∀ W A1 n1 c1, NV W A1 n1 c1 D → Ct 163 #[.slice A1 n1 c1] (.int .i64 (bd : Nat)) W))
  (C6 : Hid (∀ W A1 n1 c1, NV W A1 n1 c1 m → Ct 163 #[.slice A1 n1 c1] (.int .i64 (ba : Nat)) W))
  (C7 : Hid (∀ W A1 n1 c1, NV W A1 n1 c1 m → Cp 102 #[.slice A1 n1 c1, .int .i64 0] W (NRet M W)))
  (C8 : Hid (∀ W A1 n1 c1 A2 n2 c2, NV W A1 n1 c1 M → NV W A2 n2 c2 D → Cp 49 #[.slice A1 n1 c1, .slice A2 n2 c2] W (HRet M D W)))
  (C9 : Hid (∀ W A1 n1 c1, NV W A1 n1 c1 (M / D) → Cp 102 #[.slice A1 n1 c1, .int .i64 1] W (NRet Q W)))
  (C11 : Hid (∀ W A1 n1 c1, NV W A1 n1 c1 Q → Ct 154 #[.slice A1 n1 c1, .int .i64 Y] (.float .f64 F) W))
  (hrem : M % D = 0)
  (u0 : decide (0 ≤ E) = false) (u1 : wrap64 (-E) = -E) (u2 : wrap64 ((bd : Int) - (ba : Int)) = x1) (u3 : wrap64 (x1 + 70) = up) (u4 : decide (up < 0) = true) (u6 : Y = -1) :
  Ct 104 #[.string s, .int .i64 X] (.float .f64 F) w := by
 have h1 : (s.size : Int) ≤ 281474976710656 := by omega
 have HN := Lib.hid hN
 have HK := Lib.hid hK
 have HN0 := Lib.hid hN0
 have HREM := Lib.hid hrem
 subst u6
 have HG := Lib.hid hg
 have HGN := Lib.hid hgN
 have HN8 := Lib.hid hN8
 have HRB := Lib.hid hrb
 clear hs hK hN hN0 hrem hg hgN hN8 hrb
 go_enter Tryz.func104, Tryz.ntmps104
 go_wp2
 go_loopw [5] (fun i wr => ∃ k : Nat, i = .int .i64 k ∧ k ≤ K ∧ w = wr) (fun i _ => K - (intOf i).toNat)
 case atStart => exact ⟨0, rfl, Nat.zero_le _, rfl⟩
 case round =>
  obtain ⟨k, rfl, hk, rfl⟩ := hrel
  have hk2 := HK.out
  by_cases hlt : k < K
  ·have hks : k < s.size := by omega
   have e0 : ((s[k]'hks).toNat : Int) = 48 := by rw [Z1.out k hks hlt]; rfl
   have a2 : (k : Int) < (s.size : Int) := by omega
   have a1 : (0 : Int) ≤ (k : Int) := by omega
   clear hk2
   go_wp2
   exact ⟨⟨k + 1, by go_num, by omega, trivial⟩, by simp [intOf]; omega⟩
  ·obtain rfl : k = K := by omega
   have hz : k < s.size := by have := HN.out; have := HN0.out; omega
   obtain ⟨B, hB⟩ : ∃ B : Nat, (s[k]'hz).toNat = B := ⟨_, rfl⟩
   have hB48 := Z2.out hz
   rw [hB] at hB48
   have e0 : ((s[k]'hz).toNat : Int) = (B : Int) := by rw [hB]
   have e1 : ((B : Int) == 48) = false := by rw [beq_eq_false_iff_ne]; omega
   have a2 : (k : Int) < (s.size : Int) := by omega
   have a1 : (0 : Int) ≤ (k : Int) := by omega
   have a3 : (k : Int) ≤ (s.size : Int) := by omega
   have a4 : ((s.size - k : Nat) : Int) = (N : Int) := by rw [HN.out]
   clear hk2 hB hB48
   have hext : s.extract k s.size = g := HG.out
   have b4 : (g.size : Int) = (N : Int) := by rw [HGN.out]
   go_wp2
   clear a1 a2 a3 e0 e1 hext hz b4
   go_loopw [6, 7] (fun v i wr => ∃ j : Nat, i = .int .i64 (810 + (j : Int)) ∧ 810 + j ≤ N ∧ v = .bool ((((bl g).drop 810).take j).any (· != 48)) ∧ w = wr) (fun _ i _ => N - (intOf i).toNat)
   case atStart => exact ⟨0, rfl, by have := HN8.out; omega, rfl, rfl⟩
   case round =>
    obtain ⟨j, rfl, hj, rfl, rfl⟩ := hrel
    by_cases hjl : 810 + j < N
    ·have hgs : 810 + j < g.size := by rw [HGN.out]; exact hjl
     obtain ⟨D8, hD8⟩ : ∃ D8 : Nat, (g[810 + j]'hgs).toNat = D8 := ⟨_, rfl⟩
     have hstep : (((bl g).drop 810).take (j + 1)).any (· != 48) = ((((bl g).drop 810).take j).any (· != 48) || (D8 != 48)) := by
      rw [List.take_add_one, List.getElem?_drop, bl_get g (810 + j) hgs, hD8, List.any_append]
      simp
     have b0 : ((810 + (j : Int)) : Int) < (N : Int) := by omega
     have b1 : (0 : Int) ≤ 810 + (j : Int) := by omega
     have b2 : (810 + (j : Int)).toNat = 810 + j := by omega
     have b3 : ((g[810 + j]'hgs).toNat : Int) = (D8 : Int) := by rw [hD8]
     have b4 : (g.size : Int) = (N : Int) := by rw [HGN.out]
     have b5 : 810 + (j : Int) < (g.size : Int) := by omega
     obtain ⟨r, hr⟩ : ∃ r, (((bl g).drop 810).take j).any (· != 48) = r := ⟨_, rfl⟩
     rw [hr] at hstep ⊢
     have HST := Lib.hid hstep
     clear hstep hr hD8
     cases r
     ·cases h48 : (D8 != 48)
      ·have b6 : ((D8 : Int) != 48) = false := by rw [bne_eq_false_iff_eq]; have := bne_eq_false_iff_eq.1 h48; omega
       have HS2 := Lib.hid (show (((bl g).drop 810).take (j + 1)).any (· != 48) = false from by rw [HST.out, h48]; rfl)
       clear h48
       go_wp2
       exact ⟨⟨j + 1, by go_num, by omega, by rw [HS2.out], trivial⟩, by simp [intOf]; omega⟩
      ·have b6 : ((D8 : Int) != 48) = true := by rw [bne_iff_ne]; have := bne_iff_ne.1 h48; omega
       have HS2 := Lib.hid (show (((bl g).drop 810).take (j + 1)).any (· != 48) = true from by rw [HST.out, h48]; rfl)
       clear h48
       go_wp2
       exact ⟨⟨j + 1, by go_num, by omega, by rw [HS2.out], trivial⟩, by simp [intOf]; omega⟩
     ·have HS2 := Lib.hid (show (((bl g).drop 810).take (j + 1)).any (· != 48) = true from by rw [HST.out]; rfl)
      go_wp2
      exact ⟨⟨j + 1, by go_num, by omega, by rw [HS2.out], trivial⟩, by simp [intOf]; omega⟩
    ·have hz2 : (((bl g).drop 810).take j).any (· != 48) = false := by
      rw [List.take_of_length_le (by rw [List.length_drop, bl_size, HGN.out]; omega)]
      exact HRB.out
     rw [hz2]
     have b4 : (g.size : Int) = (N : Int) := by rw [HGN.out]
     have b0 : decide (810 + (j : Int) < (N : Int)) = false := decide_eq_false (by omega)
     have b5 : (810 : Int) ≤ (g.size : Int) := by have := HN8.out; omega
     clear hz2
     go_wp2_with fail
     refine (C3.out _).mono ?_
     rintro e w1 ⟨A1, n1, c1, rfl, g1, b1⟩
     have G1 := Lib.hid g1
     have B1 := Lib.hid b1
     clear g1 b1
     go_wp2_with fail
     refine (C4.out _).mono ?_
     rintro e w2 ⟨A2, n2, c2, rfl, g2, b2⟩
     have G2 := Lib.hid g2
     have G1a := Lib.hid (G1.out.step b2)
     have B2 := Lib.hid (below_le B1.out b2)
     clear g2 b2
     go_wp2_with fail
     refine (C5.out _ _ _ _ G2.out).mono ?_
     rintro e w3 ⟨rfl, b3⟩
     have G2a := Lib.hid (G2.out.step b3)
     have G1b := Lib.hid (G1a.out.step b3)
     have B3 := Lib.hid (below_le B2.out b3)
     clear b3
     go_wp2_with fail
     refine (C6.out _ _ _ _ G1b.out).mono ?_
     rintro e w4 ⟨rfl, b4⟩
     have G2b := Lib.hid (G2a.out.step b4)
     have G1c := Lib.hid (G1b.out.step b4)
     have B4 := Lib.hid (below_le B3.out b4)
     clear b4
     go_wp2_with fail
     refine (C7.out _ _ _ _ G1c.out).mono ?_
     rintro e w5 ⟨A5, n5, c5, rfl, g5, b5⟩
     have G5 := Lib.hid g5
     have G25 := Lib.hid (G2b.out.step b5)
     have B5 := Lib.hid (below_le B4.out b5)
     clear g5 b5
     go_wp2_with fail
     refine (C8.out _ _ _ _ _ _ _ G5.out G25.out).mono ?_
     rintro e w6 ⟨A6, n6, c6, A7, n7, c7, rfl, g6, g7, b6⟩
     have G6 := Lib.hid g6
     have B6 := Lib.hid (below_le B5.out b6)
     obtain rfl : n7 = 0 := by
      have h1 := g7.len
      rw [HREM.out] at h1
      exact h1.symm
     clear g6 g7 b6
     go_wp2_with fail
     refine (C9.out _ _ _ _ G6.out).mono ?_
     rintro e w7 ⟨A8, n8, c8, rfl, g8, b7⟩
     have G8 := Lib.hid g8
     have B7 := Lib.hid (below_le B6.out b7)
     clear g8 b7
     go_wp2_with fail
     refine (C11.out _ _ _ _ G8.out).mono ?_
     rintro e w9 ⟨rfl, b9⟩
     have B9 := Lib.hid (below_le B7.out b9)
     clear b9
     go_wp2
     go_ret
     exact ⟨rfl, B9.out⟩
set_option maxRecDepth 100000 in
set_option maxHeartbeats 2000000 in
theorem ydec_longn_neg01 (s : ByteArray) (K N : Nat) (X P : Int) (m F : Nat) (D M Q Q2 bd ba : Nat) (x1 up Y : Int) (g : ByteArray) (y1 : Int) (E : Int) (w : World) (hs : s.size ≤ 281474976710656) (hK : K ≤ s.size) (hN : s.size - K = N)
  (Z1 : Hid (∀ k (h : k < s.size), k < K → (s[k]'h).toNat = 48)) (Z2 : Hid (∀ h : K < s.size, (s[K]'h).toNat ≠ 48))
  (hN0 : 0 < N) (p1 : wrap64 ((N : Int) + X) = P) (t0 : ((N : Int) == 0) = false) (t1 : decide (400 < P) = false) (t2 : decide (P < -400) = false) (t3 : decide (820 < (N : Int)) = true)
  (hg : s.extract K s.size = g) (hgN : g.size = N) (hN8 : 820 < N) (hrb : ((bl g).drop 810).any (· != 48) = false)
  (q0 : wrap64 (X + (N : Int)) = y1) (q1 : wrap64 (y1 - 810) = E)
  (C3 : Hid (∀ W, Cp 165 #[.string (g.extract 0 810), .int .i64 10] W (NOk m W)))
  (C4 : Hid (∀ W, Cp 115 #[.int .i64 (-E)] W (NRet D W)))
  (C5 : Hid (∀ W A1 n1 c1, NV W A1 n1 c1 D → Ct 163 #[.slice A1 n1 c1] (.int .i64 (bd : Nat)) W))
  (C6 : Hid (∀ W A1 n1 c1, NV W A1 n1 c1 m → Ct 163 #[.slice A1 n1 c1] (.int .i64 (ba : Nat)) W))
  (C7 : Hid (∀ W A1 n1 c1, NV W A1 n1 c1 m → Cp 102 #[.slice A1 n1 c1, .int .i64 0] W (NRet M W)))
  (C8 : Hid (∀ W A1 n1 c1 A2 n2 c2, NV W A1 n1 c1 M → NV W A2 n2 c2 D → Cp 49 #[.slice A1 n1 c1, .slice A2 n2 c2] W (HRet M D W)))
  (C9 : Hid (∀ W A1 n1 c1, NV W A1 n1 c1 (M / D) → Cp 102 #[.slice A1 n1 c1, .int .i64 1] W (NRet Q W)))
  (C10 : Hid (∀ W A1 n1 c1 A2 n2 c2, NV W A1 n1 c1 Q → NV W A2 n2 c2 1 → Cp 103 #[.slice A1 n1 c1, .slice A2 n2 c2] W (NRet Q2 W)))
  (C11 : Hid (∀ W A1 n1 c1, NV W A1 n1 c1 Q2 → Ct 154 #[.slice A1 n1 c1, .int .i64 Y] (.float .f64 F) W))
  (hrem : M % D ≠ 0)
  (u0 : decide (0 ≤ E) = false) (u1 : wrap64 (-E) = -E) (u2 : wrap64 ((bd : Int) - (ba : Int)) = x1) (u3 : wrap64 (x1 + 70) = up) (u4 : decide (up < 0) = true) (u6 : Y = -1) :
  Ct 104 #[.string s, .int .i64 X] (.float .f64 F) w := by
 have h1 : (s.size : Int) ≤ 281474976710656 := by omega
 have HN := Lib.hid hN
 have HK := Lib.hid hK
 have HN0 := Lib.hid hN0
 have HREM := Lib.hid hrem
 subst u6
 have HG := Lib.hid hg
 have HGN := Lib.hid hgN
 have HN8 := Lib.hid hN8
 have HRB := Lib.hid hrb
 clear hs hK hN hN0 hrem hg hgN hN8 hrb
 go_enter Tryz.func104, Tryz.ntmps104
 go_wp2
 go_loopw [5] (fun i wr => ∃ k : Nat, i = .int .i64 k ∧ k ≤ K ∧ w = wr) (fun i _ => K - (intOf i).toNat)
 case atStart => exact ⟨0, rfl, Nat.zero_le _, rfl⟩
 case round =>
  obtain ⟨k, rfl, hk, rfl⟩ := hrel
  have hk2 := HK.out
  by_cases hlt : k < K
  ·have hks : k < s.size := by omega
   have e0 : ((s[k]'hks).toNat : Int) = 48 := by rw [Z1.out k hks hlt]; rfl
   have a2 : (k : Int) < (s.size : Int) := by omega
   have a1 : (0 : Int) ≤ (k : Int) := by omega
   clear hk2
   go_wp2
   exact ⟨⟨k + 1, by go_num, by omega, trivial⟩, by simp [intOf]; omega⟩
  ·obtain rfl : k = K := by omega
   have hz : k < s.size := by have := HN.out; have := HN0.out; omega
   obtain ⟨B, hB⟩ : ∃ B : Nat, (s[k]'hz).toNat = B := ⟨_, rfl⟩
   have hB48 := Z2.out hz
   rw [hB] at hB48
   have e0 : ((s[k]'hz).toNat : Int) = (B : Int) := by rw [hB]
   have e1 : ((B : Int) == 48) = false := by rw [beq_eq_false_iff_ne]; omega
   have a2 : (k : Int) < (s.size : Int) := by omega
   have a1 : (0 : Int) ≤ (k : Int) := by omega
   have a3 : (k : Int) ≤ (s.size : Int) := by omega
   have a4 : ((s.size - k : Nat) : Int) = (N : Int) := by rw [HN.out]
   clear hk2 hB hB48
   have hext : s.extract k s.size = g := HG.out
   have b4 : (g.size : Int) = (N : Int) := by rw [HGN.out]
   go_wp2
   clear a1 a2 a3 e0 e1 hext hz b4
   go_loopw [6, 7] (fun v i wr => ∃ j : Nat, i = .int .i64 (810 + (j : Int)) ∧ 810 + j ≤ N ∧ v = .bool ((((bl g).drop 810).take j).any (· != 48)) ∧ w = wr) (fun _ i _ => N - (intOf i).toNat)
   case atStart => exact ⟨0, rfl, by have := HN8.out; omega, rfl, rfl⟩
   case round =>
    obtain ⟨j, rfl, hj, rfl, rfl⟩ := hrel
    by_cases hjl : 810 + j < N
    ·have hgs : 810 + j < g.size := by rw [HGN.out]; exact hjl
     obtain ⟨D8, hD8⟩ : ∃ D8 : Nat, (g[810 + j]'hgs).toNat = D8 := ⟨_, rfl⟩
     have hstep : (((bl g).drop 810).take (j + 1)).any (· != 48) = ((((bl g).drop 810).take j).any (· != 48) || (D8 != 48)) := by
      rw [List.take_add_one, List.getElem?_drop, bl_get g (810 + j) hgs, hD8, List.any_append]
      simp
     have b0 : ((810 + (j : Int)) : Int) < (N : Int) := by omega
     have b1 : (0 : Int) ≤ 810 + (j : Int) := by omega
     have b2 : (810 + (j : Int)).toNat = 810 + j := by omega
     have b3 : ((g[810 + j]'hgs).toNat : Int) = (D8 : Int) := by rw [hD8]
     have b4 : (g.size : Int) = (N : Int) := by rw [HGN.out]
     have b5 : 810 + (j : Int) < (g.size : Int) := by omega
     obtain ⟨r, hr⟩ : ∃ r, (((bl g).drop 810).take j).any (· != 48) = r := ⟨_, rfl⟩
     rw [hr] at hstep ⊢
     have HST := Lib.hid hstep
     clear hstep hr hD8
     cases r
     ·cases h48 : (D8 != 48)
      ·have b6 : ((D8 : Int) != 48) = false := by rw [bne_eq_false_iff_eq]; have := bne_eq_false_iff_eq.1 h48; omega
       have HS2 := Lib.hid (show (((bl g).drop 810).take (j + 1)).any (· != 48) = false from by rw [HST.out, h48]; rfl)
       clear h48
       go_wp2
       exact ⟨⟨j + 1, by go_num, by omega, by rw [HS2.out], trivial⟩, by simp [intOf]; omega⟩
      ·have b6 : ((D8 : Int) != 48) = true := by rw [bne_iff_ne]; have := bne_iff_ne.1 h48; omega
       have HS2 := Lib.hid (show (((bl g).drop 810).take (j + 1)).any (· != 48) = true from by rw [HST.out, h48]; rfl)
       clear h48
       go_wp2
       exact ⟨⟨j + 1, by go_num, by omega, by rw [HS2.out], trivial⟩, by simp [intOf]; omega⟩
     ·have HS2 := Lib.hid (show (((bl g).drop 810).take (j + 1)).any (· != 48) = true from by rw [HST.out]; rfl)
      go_wp2
      exact ⟨⟨j + 1, by go_num, by omega, by rw [HS2.out], trivial⟩, by simp [intOf]; omega⟩
    ·have hz2 : (((bl g).drop 810).take j).any (· != 48) = false := by
      rw [List.take_of_length_le (by rw [List.length_drop, bl_size, HGN.out]; omega)]
      exact HRB.out
     rw [hz2]
     have b4 : (g.size : Int) = (N : Int) := by rw [HGN.out]
     have b0 : decide (810 + (j : Int) < (N : Int)) = false := decide_eq_false (by omega)
     have b5 : (810 : Int) ≤ (g.size : Int) := by have := HN8.out; omega
     clear hz2
     go_wp2_with fail
     refine (C3.out _).mono ?_
     rintro e w1 ⟨A1, n1, c1, rfl, g1, b1⟩
     have G1 := Lib.hid g1
     have B1 := Lib.hid b1
     clear g1 b1
     go_wp2_with fail
     refine (C4.out _).mono ?_
     rintro e w2 ⟨A2, n2, c2, rfl, g2, b2⟩
     have G2 := Lib.hid g2
     have G1a := Lib.hid (G1.out.step b2)
     have B2 := Lib.hid (below_le B1.out b2)
     clear g2 b2
     go_wp2_with fail
     refine (C5.out _ _ _ _ G2.out).mono ?_
     rintro e w3 ⟨rfl, b3⟩
     have G2a := Lib.hid (G2.out.step b3)
     have G1b := Lib.hid (G1a.out.step b3)
     have B3 := Lib.hid (below_le B2.out b3)
     clear b3
     go_wp2_with fail
     refine (C6.out _ _ _ _ G1b.out).mono ?_
     rintro e w4 ⟨rfl, b4⟩
     have G2b := Lib.hid (G2a.out.step b4)
     have G1c := Lib.hid (G1b.out.step b4)
     have B4 := Lib.hid (below_le B3.out b4)
     clear b4
     go_wp2_with fail
     refine (C7.out _ _ _ _ G1c.out).mono ?_
     rintro e w5 ⟨A5, n5, c5, rfl, g5, b5⟩
     have G5 := Lib.hid g5
     have G25 := Lib.hid (G2b.out.step b5)
     have B5 := Lib.hid (below_le B4.out b5)
     clear g5 b5
     go_wp2_with fail
     refine (C8.out _ _ _ _ _ _ _ G5.out G25.out).mono ?_
     rintro e w6 ⟨A6, n6, c6, A7, n7, c7, rfl, g6, g7, b6⟩
     have G6 := Lib.hid g6
     have B6 := Lib.hid (below_le B5.out b6)
     have hn7 : (0 : Int) < (n7 : Int) := by
      have h1 := g7.len
      have h2 : (wds (M % D)) ≠ [] := fun e => HREM.out (by have h3 := wds_val (M % D); rw [e] at h3; exact h3.symm)
      have := List.length_pos_iff.2 h2
      omega
     clear g6 g7 b6
     go_wp2_with fail
     refine (C9.out _ _ _ _ G6.out).mono ?_
     rintro e w7 ⟨A8, n8, c8, rfl, g8, b7⟩
     have G8 := Lib.hid g8
     have B7 := Lib.hid (below_le B6.out b7)
     clear g8 b7
     have bl := Lib.hid (show Below w7.heap.size w7 (w7.alloc (.cells #[.int .u32 1] 42)) from (Below.refl _ _).alloc (Nat.le_refl _) _)
     have C10' := Lib.hid (C10.out _ _ _ _ _ _ _ (G8.out.step bl.out) (NV.lit w7 1 (by omega) (by omega)))
     go_wp2_with fail
     refine C10'.out.mono ?_
     rintro e w8 ⟨A9, n9, c9, rfl, g9, b8⟩
     have G9 := Lib.hid g9
     have B8 := Lib.hid (below_le (below_le B7.out bl.out) b8)
     clear g9 b8
     go_wp2_with fail
     refine (C11.out _ _ _ _ G9.out).mono ?_
     rintro e w9 ⟨rfl, b9⟩
     have B9 := Lib.hid (below_le B8.out b9)
     clear b9
     go_wp2
     go_ret
     exact ⟨rfl, B9.out⟩
set_option maxRecDepth 100000 in
set_option maxHeartbeats 2000000 in
theorem ydec_longn_neg10 (s : ByteArray) (K N : Nat) (X P : Int) (m F : Nat) (D M Q bd ba : Nat) (x1 up x2 Y : Int) (g : ByteArray) (y1 : Int) (E : Int) (w : World) (hs : s.size ≤ 281474976710656) (hK : K ≤ s.size) (hN : s.size - K = N)
  (Z1 : Hid (∀ k (h : k < s.size), k < K → (s[k]'h).toNat = 48)) (Z2 : Hid (∀ h : K < s.size, (s[K]'h).toNat ≠ 48))
  (hN0 : 0 < N) (p1 : wrap64 ((N : Int) + X) = P) (t0 : ((N : Int) == 0) = false) (t1 : decide (400 < P) = false) (t2 : decide (P < -400) = false) (t3 : decide (820 < (N : Int)) = true)
  (hg : s.extract K s.size = g) (hgN : g.size = N) (hN8 : 820 < N) (hrb : ((bl g).drop 810).any (· != 48) = false)
  (q0 : wrap64 (X + (N : Int)) = y1) (q1 : wrap64 (y1 - 810) = E)
  (C3 : Hid (∀ W, Cp 165 #[.string (g.extract 0 810), .int .i64 10] W (NOk m W)))
  (C4 : Hid (∀ W, Cp 115 #[.int .i64 (-E)] W (NRet D W)))
  (C5 : Hid (∀ W A1 n1 c1, NV W A1 n1 c1 D → Ct 163 #[.slice A1 n1 c1] (.int .i64 (bd : Nat)) W))
  (C6 : Hid (∀ W A1 n1 c1, NV W A1 n1 c1 m → Ct 163 #[.slice A1 n1 c1] (.int .i64 (ba : Nat)) W))
  (C7 : Hid (∀ W A1 n1 c1, NV W A1 n1 c1 m → Cp 102 #[.slice A1 n1 c1, .int .i64 up] W (NRet M W)))
  (C8 : Hid (∀ W A1 n1 c1 A2 n2 c2, NV W A1 n1 c1 M → NV W A2 n2 c2 D → Cp 49 #[.slice A1 n1 c1, .slice A2 n2 c2] W (HRet M D W)))
  (C9 : Hid (∀ W A1 n1 c1, NV W A1 n1 c1 (M / D) → Cp 102 #[.slice A1 n1 c1, .int .i64 1] W (NRet Q W)))
  (C11 : Hid (∀ W A1 n1 c1, NV W A1 n1 c1 Q → Ct 154 #[.slice A1 n1 c1, .int .i64 Y] (.float .f64 F) W))
  (hrem : M % D = 0)
  (u0 : decide (0 ≤ E) = false) (u1 : wrap64 (-E) = -E) (u2 : wrap64 ((bd : Int) - (ba : Int)) = x1) (u3 : wrap64 (x1 + 70) = up) (u4 : decide (up < 0) = false) (u5 : wrap64 (-up) = x2) (u6 : wrap64 (x2 - 1) = Y) :
  Ct 104 #[.string s, .int .i64 X] (.float .f64 F) w := by
 have h1 : (s.size : Int) ≤ 281474976710656 := by omega
 have HN := Lib.hid hN
 have HK := Lib.hid hK
 have HN0 := Lib.hid hN0
 have HREM := Lib.hid hrem
 have HG := Lib.hid hg
 have HGN := Lib.hid hgN
 have HN8 := Lib.hid hN8
 have HRB := Lib.hid hrb
 clear hs hK hN hN0 hrem hg hgN hN8 hrb
 go_enter Tryz.func104, Tryz.ntmps104
 go_wp2
 go_loopw [5] (fun i wr => ∃ k : Nat, i = .int .i64 k ∧ k ≤ K ∧ w = wr) (fun i _ => K - (intOf i).toNat)
 case atStart => exact ⟨0, rfl, Nat.zero_le _, rfl⟩
 case round =>
  obtain ⟨k, rfl, hk, rfl⟩ := hrel
  have hk2 := HK.out
  by_cases hlt : k < K
  ·have hks : k < s.size := by omega
   have e0 : ((s[k]'hks).toNat : Int) = 48 := by rw [Z1.out k hks hlt]; rfl
   have a2 : (k : Int) < (s.size : Int) := by omega
   have a1 : (0 : Int) ≤ (k : Int) := by omega
   clear hk2
   go_wp2
   exact ⟨⟨k + 1, by go_num, by omega, trivial⟩, by simp [intOf]; omega⟩
  ·obtain rfl : k = K := by omega
   have hz : k < s.size := by have := HN.out; have := HN0.out; omega
   obtain ⟨B, hB⟩ : ∃ B : Nat, (s[k]'hz).toNat = B := ⟨_, rfl⟩
   have hB48 := Z2.out hz
   rw [hB] at hB48
   have e0 : ((s[k]'hz).toNat : Int) = (B : Int) := by rw [hB]
   have e1 : ((B : Int) == 48) = false := by rw [beq_eq_false_iff_ne]; omega
   have a2 : (k : Int) < (s.size : Int) := by omega
   have a1 : (0 : Int) ≤ (k : Int) := by omega
   have a3 : (k : Int) ≤ (s.size : Int) := by omega
   have a4 : ((s.size - k : Nat) : Int) = (N : Int) := by rw [HN.out]
   clear hk2 hB hB48
   have hext : s.extract k s.size = g := HG.out
   have b4 : (g.size : Int) = (N : Int) := by rw [HGN.out]
   go_wp2
   clear a1 a2 a3 e0 e1 hext hz b4
   go_loopw [6, 7] (fun v i wr => ∃ j : Nat, i = .int .i64 (810 + (j : Int)) ∧ 810 + j ≤ N ∧ v = .bool ((((bl g).drop 810).take j).any (· != 48)) ∧ w = wr) (fun _ i _ => N - (intOf i).toNat)
   case atStart => exact ⟨0, rfl, by have := HN8.out; omega, rfl, rfl⟩
   case round =>
    obtain ⟨j, rfl, hj, rfl, rfl⟩ := hrel
    by_cases hjl : 810 + j < N
    ·have hgs : 810 + j < g.size := by rw [HGN.out]; exact hjl
     obtain ⟨D8, hD8⟩ : ∃ D8 : Nat, (g[810 + j]'hgs).toNat = D8 := ⟨_, rfl⟩
     have hstep : (((bl g).drop 810).take (j + 1)).any (· != 48) = ((((bl g).drop 810).take j).any (· != 48) || (D8 != 48)) := by
      rw [List.take_add_one, List.getElem?_drop, bl_get g (810 + j) hgs, hD8, List.any_append]
      simp
     have b0 : ((810 + (j : Int)) : Int) < (N : Int) := by omega
     have b1 : (0 : Int) ≤ 810 + (j : Int) := by omega
     have b2 : (810 + (j : Int)).toNat = 810 + j := by omega
     have b3 : ((g[810 + j]'hgs).toNat : Int) = (D8 : Int) := by rw [hD8]
     have b4 : (g.size : Int) = (N : Int) := by rw [HGN.out]
     have b5 : 810 + (j : Int) < (g.size : Int) := by omega
     obtain ⟨r, hr⟩ : ∃ r, (((bl g).drop 810).take j).any (· != 48) = r := ⟨_, rfl⟩
     rw [hr] at hstep ⊢
     have HST := Lib.hid hstep
     clear hstep hr hD8
     cases r
     ·cases h48 : (D8 != 48)
      ·have b6 : ((D8 : Int) != 48) = false := by rw [bne_eq_false_iff_eq]; have := bne_eq_false_iff_eq.1 h48; omega
       have HS2 := Lib.hid (show (((bl g).drop 810).take (j + 1)).any (· != 48) = false from by rw [HST.out, h48]; rfl)
       clear h48
       go_wp2
       exact ⟨⟨j + 1, by go_num, by omega, by rw [HS2.out], trivial⟩, by simp [intOf]; omega⟩
      ·have b6 : ((D8 : Int) != 48) = true := by rw [bne_iff_ne]; have := bne_iff_ne.1 h48; omega
       have HS2 := Lib.hid (show (((bl g).drop 810).take (j + 1)).any (· != 48) = true from by rw [HST.out, h48]; rfl)
       clear h48
       go_wp2
       exact ⟨⟨j + 1, by go_num, by omega, by rw [HS2.out], trivial⟩, by simp [intOf]; omega⟩
     ·have HS2 := Lib.hid (show (((bl g).drop 810).take (j + 1)).any (· != 48) = true from by rw [HST.out]; rfl)
      go_wp2
      exact ⟨⟨j + 1, by go_num, by omega, by rw [HS2.out], trivial⟩, by simp [intOf]; omega⟩
    ·have hz2 : (((bl g).drop 810).take j).any (· != 48) = false := by
      rw [List.take_of_length_le (by rw [List.length_drop, bl_size, HGN.out]; omega)]
      exact HRB.out
     rw [hz2]
     have b4 : (g.size : Int) = (N : Int) := by rw [HGN.out]
     have b0 : decide (810 + (j : Int) < (N : Int)) = false := decide_eq_false (by omega)
     have b5 : (810 : Int) ≤ (g.size : Int) := by have := HN8.out; omega
     clear hz2
     go_wp2_with fail
     refine (C3.out _).mono ?_
     rintro e w1 ⟨A1, n1, c1, rfl, g1, b1⟩
     have G1 := Lib.hid g1
     have B1 := Lib.hid b1
     clear g1 b1
     go_wp2_with fail
     refine (C4.out _).mono ?_
     rintro e w2 ⟨A2, n2, c2, rfl, g2, b2⟩
     have G2 := Lib.hid g2
     have G1a := Lib.hid (G1.out.step b2)
     have B2 := Lib.hid (below_le B1.out b2)
     clear g2 b2
     go_wp2_with fail
     refine (C5.out _ _ _ _ G2.out).mono ?_
     rintro e w3 ⟨rfl, b3⟩
     have G2a := Lib.hid (G2.out.step b3)
     have G1b := Lib.hid (G1a.out.step b3)
     have B3 := Lib.hid (below_le B2.out b3)
     clear b3
     go_wp2_with fail
     refine (C6.out _ _ _ _ G1b.out).mono ?_
     rintro e w4 ⟨rfl, b4⟩
     have G2b := Lib.hid (G2a.out.step b4)
     have G1c := Lib.hid (G1b.out.step b4)
     have B4 := Lib.hid (below_le B3.out b4)
     clear b4
     go_wp2_with fail
     refine (C7.out _ _ _ _ G1c.out).mono ?_
     rintro e w5 ⟨A5, n5, c5, rfl, g5, b5⟩
     have G5 := Lib.hid g5
     have G25 := Lib.hid (G2b.out.step b5)
     have B5 := Lib.hid (below_le B4.out b5)
     clear g5 b5
     go_wp2_with fail
     refine (C8.out _ _ _ _ _ _ _ G5.out G25.out).mono ?_
     rintro e w6 ⟨A6, n6, c6, A7, n7, c7, rfl, g6, g7, b6⟩
     have G6 := Lib.hid g6
     have B6 := Lib.hid (below_le B5.out b6)
     obtain rfl : n7 = 0 := by
      have h1 := g7.len
      rw [HREM.out] at h1
      exact h1.symm
     clear g6 g7 b6
     go_wp2_with fail
     refine (C9.out _ _ _ _ G6.out).mono ?_
     rintro e w7 ⟨A8, n8, c8, rfl, g8, b7⟩
     have G8 := Lib.hid g8
     have B7 := Lib.hid (below_le B6.out b7)
     clear g8 b7
     go_wp2_with fail
     refine (C11.out _ _ _ _ G8.out).mono ?_
     rintro e w9 ⟨rfl, b9⟩
     have B9 := Lib.hid (below_le B7.out b9)
     clear b9
     go_wp2
     go_ret
     exact ⟨rfl, B9.out⟩
set_option maxRecDepth 100000 in
set_option maxHeartbeats 2000000 in
theorem ydec_longn_neg11 (s : ByteArray) (K N : Nat) (X P : Int) (m F : Nat) (D M Q Q2 bd ba : Nat) (x1 up x2 Y : Int) (g : ByteArray) (y1 : Int) (E : Int) (w : World) (hs : s.size ≤ 281474976710656) (hK : K ≤ s.size) (hN : s.size - K = N)
  (Z1 : Hid (∀ k (h : k < s.size), k < K → (s[k]'h).toNat = 48)) (Z2 : Hid (∀ h : K < s.size, (s[K]'h).toNat ≠ 48))
  (hN0 : 0 < N) (p1 : wrap64 ((N : Int) + X) = P) (t0 : ((N : Int) == 0) = false) (t1 : decide (400 < P) = false) (t2 : decide (P < -400) = false) (t3 : decide (820 < (N : Int)) = true)
  (hg : s.extract K s.size = g) (hgN : g.size = N) (hN8 : 820 < N) (hrb : ((bl g).drop 810).any (· != 48) = false)
  (q0 : wrap64 (X + (N : Int)) = y1) (q1 : wrap64 (y1 - 810) = E)
  (C3 : Hid (∀ W, Cp 165 #[.string (g.extract 0 810), .int .i64 10] W (NOk m W)))
  (C4 : Hid (∀ W, Cp 115 #[.int .i64 (-E)] W (NRet D W)))
  (C5 : Hid (∀ W A1 n1 c1, NV W A1 n1 c1 D → Ct 163 #[.slice A1 n1 c1] (.int .i64 (bd : Nat)) W))
  (C6 : Hid (∀ W A1 n1 c1, NV W A1 n1 c1 m → Ct 163 #[.slice A1 n1 c1] (.int .i64 (ba : Nat)) W))
  (C7 : Hid (∀ W A1 n1 c1, NV W A1 n1 c1 m → Cp 102 #[.slice A1 n1 c1, .int .i64 up] W (NRet M W)))
  (C8 : Hid (∀ W A1 n1 c1 A2 n2 c2, NV W A1 n1 c1 M → NV W A2 n2 c2 D → Cp 49 #[.slice A1 n1 c1, .slice A2 n2 c2] W (HRet M D W)))
  (C9 : Hid (∀ W A1 n1 c1, NV W A1 n1 c1 (M / D) → Cp 102 #[.slice A1 n1 c1, .int .i64 1] W (NRet Q W)))
  (C10 : Hid (∀ W A1 n1 c1 A2 n2 c2, NV W A1 n1 c1 Q → NV W A2 n2 c2 1 → Cp 103 #[.slice A1 n1 c1, .slice A2 n2 c2] W (NRet Q2 W)))
  (C11 : Hid (∀ W A1 n1 c1, NV W A1 n1 c1 Q2 → Ct 154 #[.slice A1 n1 c1, .int .i64 Y] (.float .f64 F) W))
  (hrem : M % D ≠ 0)
  (u0 : decide (0 ≤ E) = false) (u1 : wrap64 (-E) = -E) (u2 : wrap64 ((bd : Int) - (ba : Int)) = x1) (u3 : wrap64 (x1 + 70) = up) (u4 : decide (up < 0) = false) (u5 : wrap64 (-up) = x2) (u6 : wrap64 (x2 - 1) = Y) :
  Ct 104 #[.string s, .int .i64 X] (.float .f64 F) w := by
 have h1 : (s.size : Int) ≤ 281474976710656 := by omega
 have HN := Lib.hid hN
 have HK := Lib.hid hK
 have HN0 := Lib.hid hN0
 have HREM := Lib.hid hrem
 have HG := Lib.hid hg
 have HGN := Lib.hid hgN
 have HN8 := Lib.hid hN8
 have HRB := Lib.hid hrb
 clear hs hK hN hN0 hrem hg hgN hN8 hrb
 go_enter Tryz.func104, Tryz.ntmps104
 go_wp2
 go_loopw [5] (fun i wr => ∃ k : Nat, i = .int .i64 k ∧ k ≤ K ∧ w = wr) (fun i _ => K - (intOf i).toNat)
 case atStart => exact ⟨0, rfl, Nat.zero_le _, rfl⟩
 case round =>
  obtain ⟨k, rfl, hk, rfl⟩ := hrel
  have hk2 := HK.out
  by_cases hlt : k < K
  ·have hks : k < s.size := by omega
   have e0 : ((s[k]'hks).toNat : Int) = 48 := by rw [Z1.out k hks hlt]; rfl
   have a2 : (k : Int) < (s.size : Int) := by omega
   have a1 : (0 : Int) ≤ (k : Int) := by omega
   clear hk2
   go_wp2
   exact ⟨⟨k + 1, by go_num, by omega, trivial⟩, by simp [intOf]; omega⟩
  ·obtain rfl : k = K := by omega
   have hz : k < s.size := by have := HN.out; have := HN0.out; omega
   obtain ⟨B, hB⟩ : ∃ B : Nat, (s[k]'hz).toNat = B := ⟨_, rfl⟩
   have hB48 := Z2.out hz
   rw [hB] at hB48
   have e0 : ((s[k]'hz).toNat : Int) = (B : Int) := by rw [hB]
   have e1 : ((B : Int) == 48) = false := by rw [beq_eq_false_iff_ne]; omega
   have a2 : (k : Int) < (s.size : Int) := by omega
   have a1 : (0 : Int) ≤ (k : Int) := by omega
   have a3 : (k : Int) ≤ (s.size : Int) := by omega
   have a4 : ((s.size - k : Nat) : Int) = (N : Int) := by rw [HN.out]
   clear hk2 hB hB48
   have hext : s.extract k s.size = g := HG.out
   have b4 : (g.size : Int) = (N : Int) := by rw [HGN.out]
   go_wp2
   clear a1 a2 a3 e0 e1 hext hz b4
   go_loopw [6, 7] (fun v i wr => ∃ j : Nat, i = .int .i64 (810 + (j : Int)) ∧ 810 + j ≤ N ∧ v = .bool ((((bl g).drop 810).take j).any (· != 48)) ∧ w = wr) (fun _ i _ => N - (intOf i).toNat)
   case atStart => exact ⟨0, rfl, by have := HN8.out; omega, rfl, rfl⟩
   case round =>
    obtain ⟨j, rfl, hj, rfl, rfl⟩ := hrel
    by_cases hjl : 810 + j < N
    ·have hgs : 810 + j < g.size := by rw [HGN.out]; exact hjl
     obtain ⟨D8, hD8⟩ : ∃ D8 : Nat, (g[810 + j]'hgs).toNat = D8 := ⟨_, rfl⟩
     have hstep : (((bl g).drop 810).take (j + 1)).any (· != 48) = ((((bl g).drop 810).take j).any (· != 48) || (D8 != 48)) := by
      rw [List.take_add_one, List.getElem?_drop, bl_get g (810 + j) hgs, hD8, List.any_append]
      simp
     have b0 : ((810 + (j : Int)) : Int) < (N : Int) := by omega
     have b1 : (0 : Int) ≤ 810 + (j : Int) := by omega
     have b2 : (810 + (j : Int)).toNat = 810 + j := by omega
     have b3 : ((g[810 + j]'hgs).toNat : Int) = (D8 : Int) := by rw [hD8]
     have b4 : (g.size : Int) = (N : Int) := by rw [HGN.out]
     have b5 : 810 + (j : Int) < (g.size : Int) := by omega
     obtain ⟨r, hr⟩ : ∃ r, (((bl g).drop 810).take j).any (· != 48) = r := ⟨_, rfl⟩
     rw [hr] at hstep ⊢
     have HST := Lib.hid hstep
     clear hstep hr hD8
     cases r
     ·cases h48 : (D8 != 48)
      ·have b6 : ((D8 : Int) != 48) = false := by rw [bne_eq_false_iff_eq]; have := bne_eq_false_iff_eq.1 h48; omega
       have HS2 := Lib.hid (show (((bl g).drop 810).take (j + 1)).any (· != 48) = false from by rw [HST.out, h48]; rfl)
       clear h48
       go_wp2
       exact ⟨⟨j + 1, by go_num, by omega, by rw [HS2.out], trivial⟩, by simp [intOf]; omega⟩
      ·have b6 : ((D8 : Int) != 48) = true := by rw [bne_iff_ne]; have := bne_iff_ne.1 h48; omega
       have HS2 := Lib.hid (show (((bl g).drop 810).take (j + 1)).any (· != 48) = true from by rw [HST.out, h48]; rfl)
       clear h48
       go_wp2
       exact ⟨⟨j + 1, by go_num, by omega, by rw [HS2.out], trivial⟩, by simp [intOf]; omega⟩
     ·have HS2 := Lib.hid (show (((bl g).drop 810).take (j + 1)).any (· != 48) = true from by rw [HST.out]; rfl)
      go_wp2
      exact ⟨⟨j + 1, by go_num, by omega, by rw [HS2.out], trivial⟩, by simp [intOf]; omega⟩
    ·have hz2 : (((bl g).drop 810).take j).any (· != 48) = false := by
      rw [List.take_of_length_le (by rw [List.length_drop, bl_size, HGN.out]; omega)]
      exact HRB.out
     rw [hz2]
     have b4 : (g.size : Int) = (N : Int) := by rw [HGN.out]
     have b0 : decide (810 + (j : Int) < (N : Int)) = false := decide_eq_false (by omega)
     have b5 : (810 : Int) ≤ (g.size : Int) := by have := HN8.out; omega
     clear hz2
     go_wp2_with fail
     refine (C3.out _).mono ?_
     rintro e w1 ⟨A1, n1, c1, rfl, g1, b1⟩
     have G1 := Lib.hid g1
     have B1 := Lib.hid b1
     clear g1 b1
     go_wp2_with fail
     refine (C4.out _).mono ?_
     rintro e w2 ⟨A2, n2, c2, rfl, g2, b2⟩
     have G2 := Lib.hid g2
     have G1a := Lib.hid (G1.out.step b2)
     have B2 := Lib.hid (below_le B1.out b2)
     clear g2 b2
     go_wp2_with fail
     refine (C5.out _ _ _ _ G2.out).mono ?_
     rintro e w3 ⟨rfl, b3⟩
     have G2a := Lib.hid (G2.out.step b3)
     have G1b := Lib.hid (G1a.out.step b3)
     have B3 := Lib.hid (below_le B2.out b3)
     clear b3
     go_wp2_with fail
     refine (C6.out _ _ _ _ G1b.out).mono ?_
     rintro e w4 ⟨rfl, b4⟩
     have G2b := Lib.hid (G2a.out.step b4)
     have G1c := Lib.hid (G1b.out.step b4)
     have B4 := Lib.hid (below_le B3.out b4)
     clear b4
     go_wp2_with fail
     refine (C7.out _ _ _ _ G1c.out).mono ?_
     rintro e w5 ⟨A5, n5, c5, rfl, g5, b5⟩
     have G5 := Lib.hid g5
     have G25 := Lib.hid (G2b.out.step b5)
     have B5 := Lib.hid (below_le B4.out b5)
     clear g5 b5
     go_wp2_with fail
     refine (C8.out _ _ _ _ _ _ _ G5.out G25.out).mono ?_
     rintro e w6 ⟨A6, n6, c6, A7, n7, c7, rfl, g6, g7, b6⟩
     have G6 := Lib.hid g6
     have B6 := Lib.hid (below_le B5.out b6)
     have hn7 : (0 : Int) < (n7 : Int) := by
      have h1 := g7.len
      have h2 : (wds (M % D)) ≠ [] := fun e => HREM.out (by have h3 := wds_val (M % D); rw [e] at h3; exact h3.symm)
      have := List.length_pos_iff.2 h2
      omega
     clear g6 g7 b6
     go_wp2_with fail
     refine (C9.out _ _ _ _ G6.out).mono ?_
     rintro e w7 ⟨A8, n8, c8, rfl, g8, b7⟩
     have G8 := Lib.hid g8
     have B7 := Lib.hid (below_le B6.out b7)
     clear g8 b7
     have bl := Lib.hid (show Below w7.heap.size w7 (w7.alloc (.cells #[.int .u32 1] 42)) from (Below.refl _ _).alloc (Nat.le_refl _) _)
     have C10' := Lib.hid (C10.out _ _ _ _ _ _ _ (G8.out.step bl.out) (NV.lit w7 1 (by omega) (by omega)))
     go_wp2_with fail
     refine C10'.out.mono ?_
     rintro e w8 ⟨A9, n9, c9, rfl, g9, b8⟩
     have G9 := Lib.hid g9
     have B8 := Lib.hid (below_le (below_le B7.out bl.out) b8)
     clear g9 b8
     go_wp2_with fail
     refine (C11.out _ _ _ _ G9.out).mono ?_
     rintro e w9 ⟨rfl, b9⟩
     have B9 := Lib.hid (below_le B8.out b9)
     clear b9
     go_wp2
     go_ret
     exact ⟨rfl, B9.out⟩

end Go.Proofs.YtfcpkdafkmohkaaGreatDoor
namespace Go.Proofs.YtfcpkdafkmohkaaGreatDoor
open Go.RowKit
set_option maxRecDepth 100000 in
set_option maxHeartbeats 2000000 in
theorem ydec_longr_pos (s : ByteArray) (K N : Nat) (X P : Int) (m F : Nat) (D M : Nat) (g : ByteArray) (y1 y2 : Int) (E : Int) (w : World) (hs : s.size ≤ 281474976710656) (hK : K ≤ s.size) (hN : s.size - K = N)
  (Z1 : Hid (∀ k (h : k < s.size), k < K → (s[k]'h).toNat = 48)) (Z2 : Hid (∀ h : K < s.size, (s[K]'h).toNat ≠ 48))
  (hN0 : 0 < N) (p1 : wrap64 ((N : Int) + X) = P) (t0 : ((N : Int) == 0) = false) (t1 : decide (400 < P) = false) (t2 : decide (P < -400) = false) (t3 : decide (820 < (N : Int)) = true)
  (hg : s.extract K s.size = g) (hgN : g.size = N) (hN8 : 820 < N) (hrb : ((bl g).drop 810).any (· != 48) = true)
  (q0 : wrap64 (X + (N : Int)) = y1) (q1 : wrap64 (y1 - 810) = y2) (q2 : wrap64 (y2 - 1) = E) (_q3 : ¬ 9223372036854775807 < (g.extract 0 810).size + 1) 
  (C3 : Hid (∀ W, Cp 165 #[.string (g.extract 0 810 ++ ⟨#[49]⟩), .int .i64 10] W (NOk m W)))
  (C4 : Hid (∀ W, Cp 115 #[.int .i64 E] W (NRet D W)))
  (C5 : Hid (∀ W A1 n1 c1 A2 n2 c2, NV W A1 n1 c1 m → NV W A2 n2 c2 D → Cp 51 #[.slice A1 n1 c1, .slice A2 n2 c2] W (NRet M W)))
  (C6 : Hid (∀ W A1 n1 c1, NV W A1 n1 c1 M → Ct 154 #[.slice A1 n1 c1, .int .i64 0] (.float .f64 F) W))
  (u0 : decide (0 ≤ E) = true) :
  Ct 104 #[.string s, .int .i64 X] (.float .f64 F) w := by
 have h1 : (s.size : Int) ≤ 281474976710656 := by omega
 have HN := Lib.hid hN
 have HK := Lib.hid hK
 have HN0 := Lib.hid hN0
 have HG := Lib.hid hg
 have HGN := Lib.hid hgN
 have HN8 := Lib.hid hN8
 have HRB := Lib.hid hrb
 clear hs hK hN hN0 hg hgN hN8 hrb
 go_enter Tryz.func104, Tryz.ntmps104
 go_wp2
 go_loopw [5] (fun i wr => ∃ k : Nat, i = .int .i64 k ∧ k ≤ K ∧ w = wr) (fun i _ => K - (intOf i).toNat)
 case atStart => exact ⟨0, rfl, Nat.zero_le _, rfl⟩
 case round =>
  obtain ⟨k, rfl, hk, rfl⟩ := hrel
  have hk2 := HK.out
  by_cases hlt : k < K
  ·have hks : k < s.size := by omega
   have e0 : ((s[k]'hks).toNat : Int) = 48 := by rw [Z1.out k hks hlt]; rfl
   have a2 : (k : Int) < (s.size : Int) := by omega
   have a1 : (0 : Int) ≤ (k : Int) := by omega
   clear hk2
   go_wp2
   exact ⟨⟨k + 1, by go_num, by omega, trivial⟩, by simp [intOf]; omega⟩
  ·obtain rfl : k = K := by omega
   have hz : k < s.size := by have := HN.out; have := HN0.out; omega
   obtain ⟨B, hB⟩ : ∃ B : Nat, (s[k]'hz).toNat = B := ⟨_, rfl⟩
   have hB48 := Z2.out hz
   rw [hB] at hB48
   have e0 : ((s[k]'hz).toNat : Int) = (B : Int) := by rw [hB]
   have e1 : ((B : Int) == 48) = false := by rw [beq_eq_false_iff_ne]; omega
   have a2 : (k : Int) < (s.size : Int) := by omega
   have a1 : (0 : Int) ≤ (k : Int) := by omega
   have a3 : (k : Int) ≤ (s.size : Int) := by omega
   have a4 : ((s.size - k : Nat) : Int) = (N : Int) := by rw [HN.out]
   clear hk2 hB hB48
   have hext : s.extract k s.size = g := HG.out
   have b4 : (g.size : Int) = (N : Int) := by rw [HGN.out]
   go_wp2
   clear a1 a2 a3 e0 e1 hext hz b4
   go_loopw [6, 7] (fun v i wr => ∃ j : Nat, i = .int .i64 (810 + (j : Int)) ∧ 810 + j ≤ N ∧ v = .bool ((((bl g).drop 810).take j).any (· != 48)) ∧ w = wr) (fun _ i _ => N - (intOf i).toNat)
   case atStart => exact ⟨0, rfl, by have := HN8.out; omega, rfl, rfl⟩
   case round =>
    obtain ⟨j, rfl, hj, rfl, rfl⟩ := hrel
    by_cases hjl : 810 + j < N
    ·have hgs : 810 + j < g.size := by rw [HGN.out]; exact hjl
     obtain ⟨D8, hD8⟩ : ∃ D8 : Nat, (g[810 + j]'hgs).toNat = D8 := ⟨_, rfl⟩
     have hstep : (((bl g).drop 810).take (j + 1)).any (· != 48) = ((((bl g).drop 810).take j).any (· != 48) || (D8 != 48)) := by
      rw [List.take_add_one, List.getElem?_drop, bl_get g (810 + j) hgs, hD8, List.any_append]
      simp
     have b0 : ((810 + (j : Int)) : Int) < (N : Int) := by omega
     have b1 : (0 : Int) ≤ 810 + (j : Int) := by omega
     have b2 : (810 + (j : Int)).toNat = 810 + j := by omega
     have b3 : ((g[810 + j]'hgs).toNat : Int) = (D8 : Int) := by rw [hD8]
     have b4 : (g.size : Int) = (N : Int) := by rw [HGN.out]
     have b5 : 810 + (j : Int) < (g.size : Int) := by omega
     obtain ⟨r, hr⟩ : ∃ r, (((bl g).drop 810).take j).any (· != 48) = r := ⟨_, rfl⟩
     rw [hr] at hstep ⊢
     have HST := Lib.hid hstep
     clear hstep hr hD8
     cases r
     ·cases h48 : (D8 != 48)
      ·have b6 : ((D8 : Int) != 48) = false := by rw [bne_eq_false_iff_eq]; have := bne_eq_false_iff_eq.1 h48; omega
       have HS2 := Lib.hid (show (((bl g).drop 810).take (j + 1)).any (· != 48) = false from by rw [HST.out, h48]; rfl)
       clear h48
       go_wp2
       exact ⟨⟨j + 1, by go_num, by omega, by rw [HS2.out], trivial⟩, by simp [intOf]; omega⟩
      ·have b6 : ((D8 : Int) != 48) = true := by rw [bne_iff_ne]; have := bne_iff_ne.1 h48; omega
       have HS2 := Lib.hid (show (((bl g).drop 810).take (j + 1)).any (· != 48) = true from by rw [HST.out, h48]; rfl)
       clear h48
       go_wp2
       exact ⟨⟨j + 1, by go_num, by omega, by rw [HS2.out], trivial⟩, by simp [intOf]; omega⟩
     ·have HS2 := Lib.hid (show (((bl g).drop 810).take (j + 1)).any (· != 48) = true from by rw [HST.out]; rfl)
      go_wp2
      exact ⟨⟨j + 1, by go_num, by omega, by rw [HS2.out], trivial⟩, by simp [intOf]; omega⟩
    ·have hz2 : (((bl g).drop 810).take j).any (· != 48) = true := by
      rw [List.take_of_length_le (by rw [List.length_drop, bl_size, HGN.out]; omega)]
      exact HRB.out
     rw [hz2]
     have b4 : (g.size : Int) = (N : Int) := by rw [HGN.out]
     have b0 : decide (810 + (j : Int) < (N : Int)) = false := decide_eq_false (by omega)
     have b5 : (810 : Int) ≤ (g.size : Int) := by have := HN8.out; omega
     clear hz2
     go_wp2_with fail
     refine (C3.out _).mono ?_
     rintro e w1 ⟨A1, n1, c1, rfl, g1, b1⟩
     have G1 := Lib.hid g1
     have B1 := Lib.hid b1
     clear g1 b1
     go_wp2_with fail
     refine (C4.out _).mono ?_
     rintro e w2 ⟨A2, n2, c2, rfl, g2, b2⟩
     have G2 := Lib.hid g2
     have G1a := Lib.hid (G1.out.step b2)
     have B2 := Lib.hid (below_le B1.out b2)
     clear g2 b2
     go_wp2_with fail
     refine (C5.out _ _ _ _ _ _ _ G1a.out G2.out).mono ?_
     rintro e w3 ⟨A3, n3, c3, rfl, g3, b3⟩
     have G3 := Lib.hid g3
     have B3 := Lib.hid (below_le B2.out b3)
     clear g3 b3
     go_wp2_with fail
     refine (C6.out _ _ _ _ G3.out).mono ?_
     rintro e w4 ⟨rfl, b4⟩
     have B4 := Lib.hid (below_le B3.out b4)
     clear b4
     go_wp2
     go_ret
     exact ⟨rfl, B4.out⟩
set_option maxRecDepth 100000 in
set_option maxHeartbeats 2000000 in
theorem ydec_longr_neg00 (s : ByteArray) (K N : Nat) (X P : Int) (m F : Nat) (D M Q bd ba : Nat) (x1 up Y : Int) (g : ByteArray) (y1 y2 : Int) (E : Int) (w : World) (hs : s.size ≤ 281474976710656) (hK : K ≤ s.size) (hN : s.size - K = N)
  (Z1 : Hid (∀ k (h : k < s.size), k < K → (s[k]'h).toNat = 48)) (Z2 : Hid (∀ h : K < s.size, (s[K]'h).toNat ≠ 48))
  (hN0 : 0 < N) (p1 : wrap64 ((N : Int) + X) = P) (t0 : ((N : Int) == 0) = false) (t1 : decide (400 < P) = false) (t2 : decide (P < -400) = false) (t3 : decide (820 < (N : Int)) = true)
  (hg : s.extract K s.size = g) (hgN : g.size = N) (hN8 : 820 < N) (hrb : ((bl g).drop 810).any (· != 48) = true)
  (q0 : wrap64 (X + (N : Int)) = y1) (q1 : wrap64 (y1 - 810) = y2) (q2 : wrap64 (y2 - 1) = E) (_q3 : ¬ 9223372036854775807 < (g.extract 0 810).size + 1) 
  (C3 : Hid (∀ W, Cp 165 #[.string (g.extract 0 810 ++ ⟨#[49]⟩), .int .i64 10] W (NOk m W)))
  (C4 : Hid (∀ W, Cp 115 #[.int .i64 (-E)] W (NRet D W)))
  (C5 : Hid (∀ W A1 n1 c1, NV W A1 n1 c1 D → Ct 163 #[.slice A1 n1 c1] (.int .i64 (bd : Nat)) W))
  (C6 : Hid (∀ W A1 n1 c1, NV W A1 n1 c1 m → Ct 163 #[.slice A1 n1 c1] (.int .i64 (ba : Nat)) W))
  (C7 : Hid (∀ W A1 n1 c1, NV W A1 n1 c1 m → Cp 102 #[.slice A1 n1 c1, .int .i64 0] W (NRet M W)))
  (C8 : Hid (∀ W A1 n1 c1 A2 n2 c2, NV W A1 n1 c1 M → NV W A2 n2 c2 D → Cp 49 #[.slice A1 n1 c1, .slice A2 n2 c2] W (HRet M D W)))
  (C9 : Hid (∀ W A1 n1 c1, NV W A1 n1 c1 (M / D) → Cp 102 #[.slice A1 n1 c1, .int .i64 1] W (NRet Q W)))
  (C11 : Hid (∀ W A1 n1 c1, NV W A1 n1 c1 Q → Ct 154 #[.slice A1 n1 c1, .int .i64 Y] (.float .f64 F) W))
  (hrem : M % D = 0)
  (u0 : decide (0 ≤ E) = false) (u1 : wrap64 (-E) = -E) (u2 : wrap64 ((bd : Int) - (ba : Int)) = x1) (u3 : wrap64 (x1 + 70) = up) (u4 : decide (up < 0) = true) (u6 : Y = -1) :
  Ct 104 #[.string s, .int .i64 X] (.float .f64 F) w := by
 have h1 : (s.size : Int) ≤ 281474976710656 := by omega
 have HN := Lib.hid hN
 have HK := Lib.hid hK
 have HN0 := Lib.hid hN0
 have HREM := Lib.hid hrem
 subst u6
 have HG := Lib.hid hg
 have HGN := Lib.hid hgN
 have HN8 := Lib.hid hN8
 have HRB := Lib.hid hrb
 clear hs hK hN hN0 hrem hg hgN hN8 hrb
 go_enter Tryz.func104, Tryz.ntmps104
 go_wp2
 go_loopw [5] (fun i wr => ∃ k : Nat, i = .int .i64 k ∧ k ≤ K ∧ w = wr) (fun i _ => K - (intOf i).toNat)
 case atStart => exact ⟨0, rfl, Nat.zero_le _, rfl⟩
 case round =>
  obtain ⟨k, rfl, hk, rfl⟩ := hrel
  have hk2 := HK.out
  by_cases hlt : k < K
  ·have hks : k < s.size := by omega
   have e0 : ((s[k]'hks).toNat : Int) = 48 := by rw [Z1.out k hks hlt]; rfl
   have a2 : (k : Int) < (s.size : Int) := by omega
   have a1 : (0 : Int) ≤ (k : Int) := by omega
   clear hk2
   go_wp2
   exact ⟨⟨k + 1, by go_num, by omega, trivial⟩, by simp [intOf]; omega⟩
  ·obtain rfl : k = K := by omega
   have hz : k < s.size := by have := HN.out; have := HN0.out; omega
   obtain ⟨B, hB⟩ : ∃ B : Nat, (s[k]'hz).toNat = B := ⟨_, rfl⟩
   have hB48 := Z2.out hz
   rw [hB] at hB48
   have e0 : ((s[k]'hz).toNat : Int) = (B : Int) := by rw [hB]
   have e1 : ((B : Int) == 48) = false := by rw [beq_eq_false_iff_ne]; omega
   have a2 : (k : Int) < (s.size : Int) := by omega
   have a1 : (0 : Int) ≤ (k : Int) := by omega
   have a3 : (k : Int) ≤ (s.size : Int) := by omega
   have a4 : ((s.size - k : Nat) : Int) = (N : Int) := by rw [HN.out]
   clear hk2 hB hB48
   have hext : s.extract k s.size = g := HG.out
   have b4 : (g.size : Int) = (N : Int) := by rw [HGN.out]
   go_wp2
   clear a1 a2 a3 e0 e1 hext hz b4
   go_loopw [6, 7] (fun v i wr => ∃ j : Nat, i = .int .i64 (810 + (j : Int)) ∧ 810 + j ≤ N ∧ v = .bool ((((bl g).drop 810).take j).any (· != 48)) ∧ w = wr) (fun _ i _ => N - (intOf i).toNat)
   case atStart => exact ⟨0, rfl, by have := HN8.out; omega, rfl, rfl⟩
   case round =>
    obtain ⟨j, rfl, hj, rfl, rfl⟩ := hrel
    by_cases hjl : 810 + j < N
    ·have hgs : 810 + j < g.size := by rw [HGN.out]; exact hjl
     obtain ⟨D8, hD8⟩ : ∃ D8 : Nat, (g[810 + j]'hgs).toNat = D8 := ⟨_, rfl⟩
     have hstep : (((bl g).drop 810).take (j + 1)).any (· != 48) = ((((bl g).drop 810).take j).any (· != 48) || (D8 != 48)) := by
      rw [List.take_add_one, List.getElem?_drop, bl_get g (810 + j) hgs, hD8, List.any_append]
      simp
     have b0 : ((810 + (j : Int)) : Int) < (N : Int) := by omega
     have b1 : (0 : Int) ≤ 810 + (j : Int) := by omega
     have b2 : (810 + (j : Int)).toNat = 810 + j := by omega
     have b3 : ((g[810 + j]'hgs).toNat : Int) = (D8 : Int) := by rw [hD8]
     have b4 : (g.size : Int) = (N : Int) := by rw [HGN.out]
     have b5 : 810 + (j : Int) < (g.size : Int) := by omega
     obtain ⟨r, hr⟩ : ∃ r, (((bl g).drop 810).take j).any (· != 48) = r := ⟨_, rfl⟩
     rw [hr] at hstep ⊢
     have HST := Lib.hid hstep
     clear hstep hr hD8
     cases r
     ·cases h48 : (D8 != 48)
      ·have b6 : ((D8 : Int) != 48) = false := by rw [bne_eq_false_iff_eq]; have := bne_eq_false_iff_eq.1 h48; omega
       have HS2 := Lib.hid (show (((bl g).drop 810).take (j + 1)).any (· != 48) = false from by rw [HST.out, h48]; rfl)
       clear h48
       go_wp2
       exact ⟨⟨j + 1, by go_num, by omega, by rw [HS2.out], trivial⟩, by simp [intOf]; omega⟩
      ·have b6 : ((D8 : Int) != 48) = true := by rw [bne_iff_ne]; have := bne_iff_ne.1 h48; omega
       have HS2 := Lib.hid (show (((bl g).drop 810).take (j + 1)).any (· != 48) = true from by rw [HST.out, h48]; rfl)
       clear h48
       go_wp2
       exact ⟨⟨j + 1, by go_num, by omega, by rw [HS2.out], trivial⟩, by simp [intOf]; omega⟩
     ·have HS2 := Lib.hid (show (((bl g).drop 810).take (j + 1)).any (· != 48) = true from by rw [HST.out]; rfl)
      go_wp2
      exact ⟨⟨j + 1, by go_num, by omega, by rw [HS2.out], trivial⟩, by simp [intOf]; omega⟩
    ·have hz2 : (((bl g).drop 810).take j).any (· != 48) = true := by
      rw [List.take_of_length_le (by rw [List.length_drop, bl_size, HGN.out]; omega)]
      exact HRB.out
     rw [hz2]
     have b4 : (g.size : Int) = (N : Int) := by rw [HGN.out]
     have b0 : decide (810 + (j : Int) < (N : Int)) = false := decide_eq_false (by omega)
     have b5 : (810 : Int) ≤ (g.size : Int) := by have := HN8.out; omega
     clear hz2
     go_wp2_with fail
     refine (C3.out _).mono ?_
     rintro e w1 ⟨A1, n1, c1, rfl, g1, b1⟩
     have G1 := Lib.hid g1
     have B1 := Lib.hid b1
     clear g1 b1
     go_wp2_with fail
     refine (C4.out _).mono ?_
     rintro e w2 ⟨A2, n2, c2, rfl, g2, b2⟩
     have G2 := Lib.hid g2
     have G1a := Lib.hid (G1.out.step b2)
     have B2 := Lib.hid (below_le B1.out b2)
     clear g2 b2
     go_wp2_with fail
     refine (C5.out _ _ _ _ G2.out).mono ?_
     rintro e w3 ⟨rfl, b3⟩
     have G2a := Lib.hid (G2.out.step b3)
     have G1b := Lib.hid (G1a.out.step b3)
     have B3 := Lib.hid (below_le B2.out b3)
     clear b3
     go_wp2_with fail
     refine (C6.out _ _ _ _ G1b.out).mono ?_
     rintro e w4 ⟨rfl, b4⟩
     have G2b := Lib.hid (G2a.out.step b4)
     have G1c := Lib.hid (G1b.out.step b4)
     have B4 := Lib.hid (below_le B3.out b4)
     clear b4
     go_wp2_with fail
     refine (C7.out _ _ _ _ G1c.out).mono ?_
     rintro e w5 ⟨A5, n5, c5, rfl, g5, b5⟩
     have G5 := Lib.hid g5
     have G25 := Lib.hid (G2b.out.step b5)
     have B5 := Lib.hid (below_le B4.out b5)
     clear g5 b5
     go_wp2_with fail
     refine (C8.out _ _ _ _ _ _ _ G5.out G25.out).mono ?_
     rintro e w6 ⟨A6, n6, c6, A7, n7, c7, rfl, g6, g7, b6⟩
     have G6 := Lib.hid g6
     have B6 := Lib.hid (below_le B5.out b6)
     obtain rfl : n7 = 0 := by
      have h1 := g7.len
      rw [HREM.out] at h1
      exact h1.symm
     clear g6 g7 b6
     go_wp2_with fail
     refine (C9.out _ _ _ _ G6.out).mono ?_
     rintro e w7 ⟨A8, n8, c8, rfl, g8, b7⟩
     have G8 := Lib.hid g8
     have B7 := Lib.hid (below_le B6.out b7)
     clear g8 b7
     go_wp2_with fail
     refine (C11.out _ _ _ _ G8.out).mono ?_
     rintro e w9 ⟨rfl, b9⟩
     have B9 := Lib.hid (below_le B7.out b9)
     clear b9
     go_wp2
     go_ret
     exact ⟨rfl, B9.out⟩
set_option maxRecDepth 100000 in
set_option maxHeartbeats 2000000 in
theorem ydec_longr_neg01 (s : ByteArray) (K N : Nat) (X P : Int) (m F : Nat) (D M Q Q2 bd ba : Nat) (x1 up Y : Int) (g : ByteArray) (y1 y2 : Int) (E : Int) (w : World) (hs : s.size ≤ 281474976710656) (hK : K ≤ s.size) (hN : s.size - K = N)
  (Z1 : Hid (∀ k (h : k < s.size), k < K → (s[k]'h).toNat = 48)) (Z2 : Hid (∀ h : K < s.size, (s[K]'h).toNat ≠ 48))
  (hN0 : 0 < N) (p1 : wrap64 ((N : Int) + X) = P) (t0 : ((N : Int) == 0) = false) (t1 : decide (400 < P) = false) (t2 : decide (P < -400) = false) (t3 : decide (820 < (N : Int)) = true)
  (hg : s.extract K s.size = g) (hgN : g.size = N) (hN8 : 820 < N) (hrb : ((bl g).drop 810).any (· != 48) = true)
  (q0 : wrap64 (X + (N : Int)) = y1) (q1 : wrap64 (y1 - 810) = y2) (q2 : wrap64 (y2 - 1) = E) (_q3 : ¬ 9223372036854775807 < (g.extract 0 810).size + 1) 
  (C3 : Hid (∀ W, Cp 165 #[.string (g.extract 0 810 ++ ⟨#[49]⟩), .int .i64 10] W (NOk m W)))
  (C4 : Hid (∀ W, Cp 115 #[.int .i64 (-E)] W (NRet D W)))
  (C5 : Hid (∀ W A1 n1 c1, NV W A1 n1 c1 D → Ct 163 #[.slice A1 n1 c1] (.int .i64 (bd : Nat)) W))
  (C6 : Hid (∀ W A1 n1 c1, NV W A1 n1 c1 m → Ct 163 #[.slice A1 n1 c1] (.int .i64 (ba : Nat)) W))
  (C7 : Hid (∀ W A1 n1 c1, NV W A1 n1 c1 m → Cp 102 #[.slice A1 n1 c1, .int .i64 0] W (NRet M W)))
  (C8 : Hid (∀ W A1 n1 c1 A2 n2 c2, NV W A1 n1 c1 M → NV W A2 n2 c2 D → Cp 49 #[.slice A1 n1 c1, .slice A2 n2 c2] W (HRet M D W)))
  (C9 : Hid (∀ W A1 n1 c1, NV W A1 n1 c1 (M / D) → Cp 102 #[.slice A1 n1 c1, .int .i64 1] W (NRet Q W)))
  (C10 : Hid (∀ W A1 n1 c1 A2 n2 c2, NV W A1 n1 c1 Q → NV W A2 n2 c2 1 → Cp 103 #[.slice A1 n1 c1, .slice A2 n2 c2] W (NRet Q2 W)))
  (C11 : Hid (∀ W A1 n1 c1, NV W A1 n1 c1 Q2 → Ct 154 #[.slice A1 n1 c1, .int .i64 Y] (.float .f64 F) W))
  (hrem : M % D ≠ 0)
  (u0 : decide (0 ≤ E) = false) (u1 : wrap64 (-E) = -E) (u2 : wrap64 ((bd : Int) - (ba : Int)) = x1) (u3 : wrap64 (x1 + 70) = up) (u4 : decide (up < 0) = true) (u6 : Y = -1) :
  Ct 104 #[.string s, .int .i64 X] (.float .f64 F) w := by
 have h1 : (s.size : Int) ≤ 281474976710656 := by omega
 have HN := Lib.hid hN
 have HK := Lib.hid hK
 have HN0 := Lib.hid hN0
 have HREM := Lib.hid hrem
 subst u6
 have HG := Lib.hid hg
 have HGN := Lib.hid hgN
 have HN8 := Lib.hid hN8
 have HRB := Lib.hid hrb
 clear hs hK hN hN0 hrem hg hgN hN8 hrb
 go_enter Tryz.func104, Tryz.ntmps104
 go_wp2
 go_loopw [5] (fun i wr => ∃ k : Nat, i = .int .i64 k ∧ k ≤ K ∧ w = wr) (fun i _ => K - (intOf i).toNat)
 case atStart => exact ⟨0, rfl, Nat.zero_le _, rfl⟩
 case round =>
  obtain ⟨k, rfl, hk, rfl⟩ := hrel
  have hk2 := HK.out
  by_cases hlt : k < K
  ·have hks : k < s.size := by omega
   have e0 : ((s[k]'hks).toNat : Int) = 48 := by rw [Z1.out k hks hlt]; rfl
   have a2 : (k : Int) < (s.size : Int) := by omega
   have a1 : (0 : Int) ≤ (k : Int) := by omega
   clear hk2
   go_wp2
   exact ⟨⟨k + 1, by go_num, by omega, trivial⟩, by simp [intOf]; omega⟩
  ·obtain rfl : k = K := by omega
   have hz : k < s.size := by have := HN.out; have := HN0.out; omega
   obtain ⟨B, hB⟩ : ∃ B : Nat, (s[k]'hz).toNat = B := ⟨_, rfl⟩
   have hB48 := Z2.out hz
   rw [hB] at hB48
   have e0 : ((s[k]'hz).toNat : Int) = (B : Int) := by rw [hB]
   have e1 : ((B : Int) == 48) = false := by rw [beq_eq_false_iff_ne]; omega
   have a2 : (k : Int) < (s.size : Int) := by omega
   have a1 : (0 : Int) ≤ (k : Int) := by omega
   have a3 : (k : Int) ≤ (s.size : Int) := by omega
   have a4 : ((s.size - k : Nat) : Int) = (N : Int) := by rw [HN.out]
   clear hk2 hB hB48
   have hext : s.extract k s.size = g := HG.out
   have b4 : (g.size : Int) = (N : Int) := by rw [HGN.out]
   go_wp2
   clear a1 a2 a3 e0 e1 hext hz b4
   go_loopw [6, 7] (fun v i wr => ∃ j : Nat, i = .int .i64 (810 + (j : Int)) ∧ 810 + j ≤ N ∧ v = .bool ((((bl g).drop 810).take j).any (· != 48)) ∧ w = wr) (fun _ i _ => N - (intOf i).toNat)
   case atStart => exact ⟨0, rfl, by have := HN8.out; omega, rfl, rfl⟩
   case round =>
    obtain ⟨j, rfl, hj, rfl, rfl⟩ := hrel
    by_cases hjl : 810 + j < N
    ·have hgs : 810 + j < g.size := by rw [HGN.out]; exact hjl
     obtain ⟨D8, hD8⟩ : ∃ D8 : Nat, (g[810 + j]'hgs).toNat = D8 := ⟨_, rfl⟩
     have hstep : (((bl g).drop 810).take (j + 1)).any (· != 48) = ((((bl g).drop 810).take j).any (· != 48) || (D8 != 48)) := by
      rw [List.take_add_one, List.getElem?_drop, bl_get g (810 + j) hgs, hD8, List.any_append]
      simp
     have b0 : ((810 + (j : Int)) : Int) < (N : Int) := by omega
     have b1 : (0 : Int) ≤ 810 + (j : Int) := by omega
     have b2 : (810 + (j : Int)).toNat = 810 + j := by omega
     have b3 : ((g[810 + j]'hgs).toNat : Int) = (D8 : Int) := by rw [hD8]
     have b4 : (g.size : Int) = (N : Int) := by rw [HGN.out]
     have b5 : 810 + (j : Int) < (g.size : Int) := by omega
     obtain ⟨r, hr⟩ : ∃ r, (((bl g).drop 810).take j).any (· != 48) = r := ⟨_, rfl⟩
     rw [hr] at hstep ⊢
     have HST := Lib.hid hstep
     clear hstep hr hD8
     cases r
     ·cases h48 : (D8 != 48)
      ·have b6 : ((D8 : Int) != 48) = false := by rw [bne_eq_false_iff_eq]; have := bne_eq_false_iff_eq.1 h48; omega
       have HS2 := Lib.hid (show (((bl g).drop 810).take (j + 1)).any (· != 48) = false from by rw [HST.out, h48]; rfl)
       clear h48
       go_wp2
       exact ⟨⟨j + 1, by go_num, by omega, by rw [HS2.out], trivial⟩, by simp [intOf]; omega⟩
      ·have b6 : ((D8 : Int) != 48) = true := by rw [bne_iff_ne]; have := bne_iff_ne.1 h48; omega
       have HS2 := Lib.hid (show (((bl g).drop 810).take (j + 1)).any (· != 48) = true from by rw [HST.out, h48]; rfl)
       clear h48
       go_wp2
       exact ⟨⟨j + 1, by go_num, by omega, by rw [HS2.out], trivial⟩, by simp [intOf]; omega⟩
     ·have HS2 := Lib.hid (show (((bl g).drop 810).take (j + 1)).any (· != 48) = true from by rw [HST.out]; rfl)
      go_wp2
      exact ⟨⟨j + 1, by go_num, by omega, by rw [HS2.out], trivial⟩, by simp [intOf]; omega⟩
    ·have hz2 : (((bl g).drop 810).take j).any (· != 48) = true := by
      rw [List.take_of_length_le (by rw [List.length_drop, bl_size, HGN.out]; omega)]
      exact HRB.out
     rw [hz2]
     have b4 : (g.size : Int) = (N : Int) := by rw [HGN.out]
     have b0 : decide (810 + (j : Int) < (N : Int)) = false := decide_eq_false (by omega)
     have b5 : (810 : Int) ≤ (g.size : Int) := by have := HN8.out; omega
     clear hz2
     go_wp2_with fail
     refine (C3.out _).mono ?_
     rintro e w1 ⟨A1, n1, c1, rfl, g1, b1⟩
     have G1 := Lib.hid g1
     have B1 := Lib.hid b1
     clear g1 b1
     go_wp2_with fail
     refine (C4.out _).mono ?_
     rintro e w2 ⟨A2, n2, c2, rfl, g2, b2⟩
     have G2 := Lib.hid g2
     have G1a := Lib.hid (G1.out.step b2)
     have B2 := Lib.hid (below_le B1.out b2)
     clear g2 b2
     go_wp2_with fail
     refine (C5.out _ _ _ _ G2.out).mono ?_
     rintro e w3 ⟨rfl, b3⟩
     have G2a := Lib.hid (G2.out.step b3)
     have G1b := Lib.hid (G1a.out.step b3)
     have B3 := Lib.hid (below_le B2.out b3)
     clear b3
     go_wp2_with fail
     refine (C6.out _ _ _ _ G1b.out).mono ?_
     rintro e w4 ⟨rfl, b4⟩
     have G2b := Lib.hid (G2a.out.step b4)
     have G1c := Lib.hid (G1b.out.step b4)
     have B4 := Lib.hid (below_le B3.out b4)
     clear b4
     go_wp2_with fail
     refine (C7.out _ _ _ _ G1c.out).mono ?_
     rintro e w5 ⟨A5, n5, c5, rfl, g5, b5⟩
     have G5 := Lib.hid g5
     have G25 := Lib.hid (G2b.out.step b5)
     have B5 := Lib.hid (below_le B4.out b5)
     clear g5 b5
     go_wp2_with fail
     refine (C8.out _ _ _ _ _ _ _ G5.out G25.out).mono ?_
     rintro e w6 ⟨A6, n6, c6, A7, n7, c7, rfl, g6, g7, b6⟩
     have G6 := Lib.hid g6
     have B6 := Lib.hid (below_le B5.out b6)
     have hn7 : (0 : Int) < (n7 : Int) := by
      have h1 := g7.len
      have h2 : (wds (M % D)) ≠ [] := fun e => HREM.out (by have h3 := wds_val (M % D); rw [e] at h3; exact h3.symm)
      have := List.length_pos_iff.2 h2
      omega
     clear g6 g7 b6
     go_wp2_with fail
     refine (C9.out _ _ _ _ G6.out).mono ?_
     rintro e w7 ⟨A8, n8, c8, rfl, g8, b7⟩
     have G8 := Lib.hid g8
     have B7 := Lib.hid (below_le B6.out b7)
     clear g8 b7
     have bl := Lib.hid (show Below w7.heap.size w7 (w7.alloc (.cells #[.int .u32 1] 42)) from (Below.refl _ _).alloc (Nat.le_refl _) _)
     have C10' := Lib.hid (C10.out _ _ _ _ _ _ _ (G8.out.step bl.out) (NV.lit w7 1 (by omega) (by omega)))
     go_wp2_with fail
     refine C10'.out.mono ?_
     rintro e w8 ⟨A9, n9, c9, rfl, g9, b8⟩
     have G9 := Lib.hid g9
     have B8 := Lib.hid (below_le (below_le B7.out bl.out) b8)
     clear g9 b8
     go_wp2_with fail
     refine (C11.out _ _ _ _ G9.out).mono ?_
     rintro e w9 ⟨rfl, b9⟩
     have B9 := Lib.hid (below_le B8.out b9)
     clear b9
     go_wp2
     go_ret
     exact ⟨rfl, B9.out⟩
set_option maxRecDepth 100000 in
set_option maxHeartbeats 2000000 in
theorem ydec_longr_neg10 (s : ByteArray) (K N : Nat) (X P : Int) (m F : Nat) (D M Q bd ba : Nat) (x1 up x2 Y : Int) (g : ByteArray) (y1 y2 : Int) (E : Int) (w : World) (hs : s.size ≤ 281474976710656) (hK : K ≤ s.size) (hN : s.size - K = N)
  (Z1 : Hid (∀ k (h : k < s.size), k < K → (s[k]'h).toNat = 48)) (Z2 : Hid (∀ h : K < s.size, (s[K]'h).toNat ≠ 48))
  (hN0 : 0 < N) (p1 : wrap64 ((N : Int) + X) = P) (t0 : ((N : Int) == 0) = false) (t1 : decide (400 < P) = false) (t2 : decide (P < -400) = false) (t3 : decide (820 < (N : Int)) = true)
  (hg : s.extract K s.size = g) (hgN : g.size = N) (hN8 : 820 < N) (hrb : ((bl g).drop 810).any (· != 48) = true)
  (q0 : wrap64 (X + (N : Int)) = y1) (q1 : wrap64 (y1 - 810) = y2) (q2 : wrap64 (y2 - 1) = E) (_q3 : ¬ 9223372036854775807 < (g.extract 0 810).size + 1) 
  (C3 : Hid (∀ W, Cp 165 #[.string (g.extract 0 810 ++ ⟨#[49]⟩), .int .i64 10] W (NOk m W)))
  (C4 : Hid (∀ W, Cp 115 #[.int .i64 (-E)] W (NRet D W)))
  (C5 : Hid (∀ W A1 n1 c1, NV W A1 n1 c1 D → Ct 163 #[.slice A1 n1 c1] (.int .i64 (bd : Nat)) W))
  (C6 : Hid (∀ W A1 n1 c1, NV W A1 n1 c1 m → Ct 163 #[.slice A1 n1 c1] (.int .i64 (ba : Nat)) W))
  (C7 : Hid (∀ W A1 n1 c1, NV W A1 n1 c1 m → Cp 102 #[.slice A1 n1 c1, .int .i64 up] W (NRet M W)))
  (C8 : Hid (∀ W A1 n1 c1 A2 n2 c2, NV W A1 n1 c1 M → NV W A2 n2 c2 D → Cp 49 #[.slice A1 n1 c1, .slice A2 n2 c2] W (HRet M D W)))
  (C9 : Hid (∀ W A1 n1 c1, NV W A1 n1 c1 (M / D) → Cp 102 #[.slice A1 n1 c1, .int .i64 1] W (NRet Q W)))
  (C11 : Hid (∀ W A1 n1 c1, NV W A1 n1 c1 Q → Ct 154 #[.slice A1 n1 c1, .int .i64 Y] (.float .f64 F) W))
  (hrem : M % D = 0)
  (u0 : decide (0 ≤ E) = false) (u1 : wrap64 (-E) = -E) (u2 : wrap64 ((bd : Int) - (ba : Int)) = x1) (u3 : wrap64 (x1 + 70) = up) (u4 : decide (up < 0) = false) (u5 : wrap64 (-up) = x2) (u6 : wrap64 (x2 - 1) = Y) :
  Ct 104 #[.string s, .int .i64 X] (.float .f64 F) w := by
 have h1 : (s.size : Int) ≤ 281474976710656 := by omega
 have HN := Lib.hid hN
 have HK := Lib.hid hK
 have HN0 := Lib.hid hN0
 have HREM := Lib.hid hrem
 have HG := Lib.hid hg
 have HGN := Lib.hid hgN
 have HN8 := Lib.hid hN8
 have HRB := Lib.hid hrb
 clear hs hK hN hN0 hrem hg hgN hN8 hrb
 go_enter Tryz.func104, Tryz.ntmps104
 go_wp2
 go_loopw [5] (fun i wr => ∃ k : Nat, i = .int .i64 k ∧ k ≤ K ∧ w = wr) (fun i _ => K - (intOf i).toNat)
 case atStart => exact ⟨0, rfl, Nat.zero_le _, rfl⟩
 case round =>
  obtain ⟨k, rfl, hk, rfl⟩ := hrel
  have hk2 := HK.out
  by_cases hlt : k < K
  ·have hks : k < s.size := by omega
   have e0 : ((s[k]'hks).toNat : Int) = 48 := by rw [Z1.out k hks hlt]; rfl
   have a2 : (k : Int) < (s.size : Int) := by omega
   have a1 : (0 : Int) ≤ (k : Int) := by omega
   clear hk2
   go_wp2
   exact ⟨⟨k + 1, by go_num, by omega, trivial⟩, by simp [intOf]; omega⟩
  ·obtain rfl : k = K := by omega
   have hz : k < s.size := by have := HN.out; have := HN0.out; omega
   obtain ⟨B, hB⟩ : ∃ B : Nat, (s[k]'hz).toNat = B := ⟨_, rfl⟩
   have hB48 := Z2.out hz
   rw [hB] at hB48
   have e0 : ((s[k]'hz).toNat : Int) = (B : Int) := by rw [hB]
   have e1 : ((B : Int) == 48) = false := by rw [beq_eq_false_iff_ne]; omega
   have a2 : (k : Int) < (s.size : Int) := by omega
   have a1 : (0 : Int) ≤ (k : Int) := by omega
   have a3 : (k : Int) ≤ (s.size : Int) := by omega
   have a4 : ((s.size - k : Nat) : Int) = (N : Int) := by rw [HN.out]
   clear hk2 hB hB48
   have hext : s.extract k s.size = g := HG.out
   have b4 : (g.size : Int) = (N : Int) := by rw [HGN.out]
   go_wp2
   clear a1 a2 a3 e0 e1 hext hz b4
   go_loopw [6, 7] (fun v i wr => ∃ j : Nat, i = .int .i64 (810 + (j : Int)) ∧ 810 + j ≤ N ∧ v = .bool ((((bl g).drop 810).take j).any (· != 48)) ∧ w = wr) (fun _ i _ => N - (intOf i).toNat)
   case atStart => exact ⟨0, rfl, by have := HN8.out; omega, rfl, rfl⟩
   case round =>
    obtain ⟨j, rfl, hj, rfl, rfl⟩ := hrel
    by_cases hjl : 810 + j < N
    ·have hgs : 810 + j < g.size := by rw [HGN.out]; exact hjl
     obtain ⟨D8, hD8⟩ : ∃ D8 : Nat, (g[810 + j]'hgs).toNat = D8 := ⟨_, rfl⟩
     have hstep : (((bl g).drop 810).take (j + 1)).any (· != 48) = ((((bl g).drop 810).take j).any (· != 48) || (D8 != 48)) := by
      rw [List.take_add_one, List.getElem?_drop, bl_get g (810 + j) hgs, hD8, List.any_append]
      simp
     have b0 : ((810 + (j : Int)) : Int) < (N : Int) := by omega
     have b1 : (0 : Int) ≤ 810 + (j : Int) := by omega
     have b2 : (810 + (j : Int)).toNat = 810 + j := by omega
     have b3 : ((g[810 + j]'hgs).toNat : Int) = (D8 : Int) := by rw [hD8]
     have b4 : (g.size : Int) = (N : Int) := by rw [HGN.out]
     have b5 : 810 + (j : Int) < (g.size : Int) := by omega
     obtain ⟨r, hr⟩ : ∃ r, (((bl g).drop 810).take j).any (· != 48) = r := ⟨_, rfl⟩
     rw [hr] at hstep ⊢
     have HST := Lib.hid hstep
     clear hstep hr hD8
     cases r
     ·cases h48 : (D8 != 48)
      ·have b6 : ((D8 : Int) != 48) = false := by rw [bne_eq_false_iff_eq]; have := bne_eq_false_iff_eq.1 h48; omega
       have HS2 := Lib.hid (show (((bl g).drop 810).take (j + 1)).any (· != 48) = false from by rw [HST.out, h48]; rfl)
       clear h48
       go_wp2
       exact ⟨⟨j + 1, by go_num, by omega, by rw [HS2.out], trivial⟩, by simp [intOf]; omega⟩
      ·have b6 : ((D8 : Int) != 48) = true := by rw [bne_iff_ne]; have := bne_iff_ne.1 h48; omega
       have HS2 := Lib.hid (show (((bl g).drop 810).take (j + 1)).any (· != 48) = true from by rw [HST.out, h48]; rfl)
       clear h48
       go_wp2
       exact ⟨⟨j + 1, by go_num, by omega, by rw [HS2.out], trivial⟩, by simp [intOf]; omega⟩
     ·have HS2 := Lib.hid (show (((bl g).drop 810).take (j + 1)).any (· != 48) = true from by rw [HST.out]; rfl)
      go_wp2
      exact ⟨⟨j + 1, by go_num, by omega, by rw [HS2.out], trivial⟩, by simp [intOf]; omega⟩
    ·have hz2 : (((bl g).drop 810).take j).any (· != 48) = true := by
      rw [List.take_of_length_le (by rw [List.length_drop, bl_size, HGN.out]; omega)]
      exact HRB.out
     rw [hz2]
     have b4 : (g.size : Int) = (N : Int) := by rw [HGN.out]
     have b0 : decide (810 + (j : Int) < (N : Int)) = false := decide_eq_false (by omega)
     have b5 : (810 : Int) ≤ (g.size : Int) := by have := HN8.out; omega
     clear hz2
     go_wp2_with fail
     refine (C3.out _).mono ?_
     rintro e w1 ⟨A1, n1, c1, rfl, g1, b1⟩
     have G1 := Lib.hid g1
     have B1 := Lib.hid b1
     clear g1 b1
     go_wp2_with fail
     refine (C4.out _).mono ?_
     rintro e w2 ⟨A2, n2, c2, rfl, g2, b2⟩
     have G2 := Lib.hid g2
     have G1a := Lib.hid (G1.out.step b2)
     have B2 := Lib.hid (below_le B1.out b2)
     clear g2 b2
     go_wp2_with fail
     refine (C5.out _ _ _ _ G2.out).mono ?_
     rintro e w3 ⟨rfl, b3⟩
     have G2a := Lib.hid (G2.out.step b3)
     have G1b := Lib.hid (G1a.out.step b3)
     have B3 := Lib.hid (below_le B2.out b3)
     clear b3
     go_wp2_with fail
     refine (C6.out _ _ _ _ G1b.out).mono ?_
     rintro e w4 ⟨rfl, b4⟩
     have G2b := Lib.hid (G2a.out.step b4)
     have G1c := Lib.hid (G1b.out.step b4)
     have B4 := Lib.hid (below_le B3.out b4)
     clear b4
     go_wp2_with fail
     refine (C7.out _ _ _ _ G1c.out).mono ?_
     rintro e w5 ⟨A5, n5, c5, rfl, g5, b5⟩
     have G5 := Lib.hid g5
     have G25 := Lib.hid (G2b.out.step b5)
     have B5 := Lib.hid (below_le B4.out b5)
     clear g5 b5
     go_wp2_with fail
     refine (C8.out _ _ _ _ _ _ _ G5.out G25.out).mono ?_
     rintro e w6 ⟨A6, n6, c6, A7, n7, c7, rfl, g6, g7, b6⟩
     have G6 := Lib.hid g6
     have B6 := Lib.hid (below_le B5.out b6)
     obtain rfl : n7 = 0 := by
      have h1 := g7.len
      rw [HREM.out] at h1
      exact h1.symm
     clear g6 g7 b6
     go_wp2_with fail
     refine (C9.out _ _ _ _ G6.out).mono ?_
     rintro e w7 ⟨A8, n8, c8, rfl, g8, b7⟩
     have G8 := Lib.hid g8
     have B7 := Lib.hid (below_le B6.out b7)
     clear g8 b7
     go_wp2_with fail
     refine (C11.out _ _ _ _ G8.out).mono ?_
     rintro e w9 ⟨rfl, b9⟩
     have B9 := Lib.hid (below_le B7.out b9)
     clear b9
     go_wp2
     go_ret
     exact ⟨rfl, B9.out⟩
set_option maxRecDepth 100000 in
set_option maxHeartbeats 2000000 in
theorem ydec_longr_neg11 (s : ByteArray) (K N : Nat) (X P : Int) (m F : Nat) (D M Q Q2 bd ba : Nat) (x1 up x2 Y : Int) (g : ByteArray) (y1 y2 : Int) (E : Int) (w : World) (hs : s.size ≤ 281474976710656) (hK : K ≤ s.size) (hN : s.size - K = N)
  (Z1 : Hid (∀ k (h : k < s.size), k < K → (s[k]'h).toNat = 48)) (Z2 : Hid (∀ h : K < s.size, (s[K]'h).toNat ≠ 48))
  (hN0 : 0 < N) (p1 : wrap64 ((N : Int) + X) = P) (t0 : ((N : Int) == 0) = false) (t1 : decide (400 < P) = false) (t2 : decide (P < -400) = false) (t3 : decide (820 < (N : Int)) = true)
  (hg : s.extract K s.size = g) (hgN : g.size = N) (hN8 : 820 < N) (hrb : ((bl g).drop 810).any (· != 48) = true)
  (q0 : wrap64 (X + (N : Int)) = y1) (q1 : wrap64 (y1 - 810) = y2) (q2 : wrap64 (y2 - 1) = E) (_q3 : ¬ 9223372036854775807 < (g.extract 0 810).size + 1) 
  (C3 : Hid (∀ W, Cp 165 #[.string (g.extract 0 810 ++ ⟨#[49]⟩), .int .i64 10] W (NOk m W)))
  (C4 : Hid (∀ W, Cp 115 #[.int .i64 (-E)] W (NRet D W)))
  (C5 : Hid (∀ W A1 n1 c1, NV W A1 n1 c1 D → Ct 163 #[.slice A1 n1 c1] (.int .i64 (bd : Nat)) W))
  (C6 : Hid (∀ W A1 n1 c1, NV W A1 n1 c1 m → Ct 163 #[.slice A1 n1 c1] (.int .i64 (ba : Nat)) W))
  (C7 : Hid (∀ W A1 n1 c1, NV W A1 n1 c1 m → Cp 102 #[.slice A1 n1 c1, .int .i64 up] W (NRet M W)))
  (C8 : Hid (∀ W A1 n1 c1 A2 n2 c2, NV W A1 n1 c1 M → NV W A2 n2 c2 D → Cp 49 #[.slice A1 n1 c1, .slice A2 n2 c2] W (HRet M D W)))
  (C9 : Hid (∀ W A1 n1 c1, NV W A1 n1 c1 (M / D) → Cp 102 #[.slice A1 n1 c1, .int .i64 1] W (NRet Q W)))
  (C10 : Hid (∀ W A1 n1 c1 A2 n2 c2, NV W A1 n1 c1 Q → NV W A2 n2 c2 1 → Cp 103 #[.slice A1 n1 c1, .slice A2 n2 c2] W (NRet Q2 W)))
  (C11 : Hid (∀ W A1 n1 c1, NV W A1 n1 c1 Q2 → Ct 154 #[.slice A1 n1 c1, .int .i64 Y] (.float .f64 F) W))
  (hrem : M % D ≠ 0)
  (u0 : decide (0 ≤ E) = false) (u1 : wrap64 (-E) = -E) (u2 : wrap64 ((bd : Int) - (ba : Int)) = x1) (u3 : wrap64 (x1 + 70) = up) (u4 : decide (up < 0) = false) (u5 : wrap64 (-up) = x2) (u6 : wrap64 (x2 - 1) = Y) :
  Ct 104 #[.string s, .int .i64 X] (.float .f64 F) w := by
 have h1 : (s.size : Int) ≤ 281474976710656 := by omega
 have HN := Lib.hid hN
 have HK := Lib.hid hK
 have HN0 := Lib.hid hN0
 have HREM := Lib.hid hrem
 have HG := Lib.hid hg
 have HGN := Lib.hid hgN
 have HN8 := Lib.hid hN8
 have HRB := Lib.hid hrb
 clear hs hK hN hN0 hrem hg hgN hN8 hrb
 go_enter Tryz.func104, Tryz.ntmps104
 go_wp2
 go_loopw [5] (fun i wr => ∃ k : Nat, i = .int .i64 k ∧ k ≤ K ∧ w = wr) (fun i _ => K - (intOf i).toNat)
 case atStart => exact ⟨0, rfl, Nat.zero_le _, rfl⟩
 case round =>
  obtain ⟨k, rfl, hk, rfl⟩ := hrel
  have hk2 := HK.out
  by_cases hlt : k < K
  ·have hks : k < s.size := by omega
   have e0 : ((s[k]'hks).toNat : Int) = 48 := by rw [Z1.out k hks hlt]; rfl
   have a2 : (k : Int) < (s.size : Int) := by omega
   have a1 : (0 : Int) ≤ (k : Int) := by omega
   clear hk2
   go_wp2
   exact ⟨⟨k + 1, by go_num, by omega, trivial⟩, by simp [intOf]; omega⟩
  ·obtain rfl : k = K := by omega
   have hz : k < s.size := by have := HN.out; have := HN0.out; omega
   obtain ⟨B, hB⟩ : ∃ B : Nat, (s[k]'hz).toNat = B := ⟨_, rfl⟩
   have hB48 := Z2.out hz
   rw [hB] at hB48
   have e0 : ((s[k]'hz).toNat : Int) = (B : Int) := by rw [hB]
   have e1 : ((B : Int) == 48) = false := by rw [beq_eq_false_iff_ne]; omega
   have a2 : (k : Int) < (s.size : Int) := by omega
   have a1 : (0 : Int) ≤ (k : Int) := by omega
   have a3 : (k : Int) ≤ (s.size : Int) := by omega
   have a4 : ((s.size - k : Nat) : Int) = (N : Int) := by rw [HN.out]
   clear hk2 hB hB48
   have hext : s.extract k s.size = g := HG.out
   have b4 : (g.size : Int) = (N : Int) := by rw [HGN.out]
   go_wp2
   clear a1 a2 a3 e0 e1 hext hz b4
   go_loopw [6, 7] (fun v i wr => ∃ j : Nat, i = .int .i64 (810 + (j : Int)) ∧ 810 + j ≤ N ∧ v = .bool ((((bl g).drop 810).take j).any (· != 48)) ∧ w = wr) (fun _ i _ => N - (intOf i).toNat)
   case atStart => exact ⟨0, rfl, by have := HN8.out; omega, rfl, rfl⟩
   case round =>
    obtain ⟨j, rfl, hj, rfl, rfl⟩ := hrel
    by_cases hjl : 810 + j < N
    ·have hgs : 810 + j < g.size := by rw [HGN.out]; exact hjl
     obtain ⟨D8, hD8⟩ : ∃ D8 : Nat, (g[810 + j]'hgs).toNat = D8 := ⟨_, rfl⟩
     have hstep : (((bl g).drop 810).take (j + 1)).any (· != 48) = ((((bl g).drop 810).take j).any (· != 48) || (D8 != 48)) := by
      rw [List.take_add_one, List.getElem?_drop, bl_get g (810 + j) hgs, hD8, List.any_append]
      simp
     have b0 : ((810 + (j : Int)) : Int) < (N : Int) := by omega
     have b1 : (0 : Int) ≤ 810 + (j : Int) := by omega
     have b2 : (810 + (j : Int)).toNat = 810 + j := by omega
     have b3 : ((g[810 + j]'hgs).toNat : Int) = (D8 : Int) := by rw [hD8]
     have b4 : (g.size : Int) = (N : Int) := by rw [HGN.out]
     have b5 : 810 + (j : Int) < (g.size : Int) := by omega
     obtain ⟨r, hr⟩ : ∃ r, (((bl g).drop 810).take j).any (· != 48) = r := ⟨_, rfl⟩
     rw [hr] at hstep ⊢
     have HST := Lib.hid hstep
     clear hstep hr hD8
     cases r
     ·cases h48 : (D8 != 48)
      ·have b6 : ((D8 : Int) != 48) = false := by rw [bne_eq_false_iff_eq]; have := bne_eq_false_iff_eq.1 h48; omega
       have HS2 := Lib.hid (show (((bl g).drop 810).take (j + 1)).any (· != 48) = false from by rw [HST.out, h48]; rfl)
       clear h48
       go_wp2
       exact ⟨⟨j + 1, by go_num, by omega, by rw [HS2.out], trivial⟩, by simp [intOf]; omega⟩
      ·have b6 : ((D8 : Int) != 48) = true := by rw [bne_iff_ne]; have := bne_iff_ne.1 h48; omega
       have HS2 := Lib.hid (show (((bl g).drop 810).take (j + 1)).any (· != 48) = true from by rw [HST.out, h48]; rfl)
       clear h48
       go_wp2
       exact ⟨⟨j + 1, by go_num, by omega, by rw [HS2.out], trivial⟩, by simp [intOf]; omega⟩
     ·have HS2 := Lib.hid (show (((bl g).drop 810).take (j + 1)).any (· != 48) = true from by rw [HST.out]; rfl)
      go_wp2
      exact ⟨⟨j + 1, by go_num, by omega, by rw [HS2.out], trivial⟩, by simp [intOf]; omega⟩
    ·have hz2 : (((bl g).drop 810).take j).any (· != 48) = true := by
      rw [List.take_of_length_le (by rw [List.length_drop, bl_size, HGN.out]; omega)]
      exact HRB.out
     rw [hz2]
     have b4 : (g.size : Int) = (N : Int) := by rw [HGN.out]
     have b0 : decide (810 + (j : Int) < (N : Int)) = false := decide_eq_false (by omega)
     have b5 : (810 : Int) ≤ (g.size : Int) := by have := HN8.out; omega
     clear hz2
     go_wp2_with fail
     refine (C3.out _).mono ?_
     rintro e w1 ⟨A1, n1, c1, rfl, g1, b1⟩
     have G1 := Lib.hid g1
     have B1 := Lib.hid b1
     clear g1 b1
     go_wp2_with fail
     refine (C4.out _).mono ?_
     rintro e w2 ⟨A2, n2, c2, rfl, g2, b2⟩
     have G2 := Lib.hid g2
     have G1a := Lib.hid (G1.out.step b2)
     have B2 := Lib.hid (below_le B1.out b2)
     clear g2 b2
     go_wp2_with fail
     refine (C5.out _ _ _ _ G2.out).mono ?_
     rintro e w3 ⟨rfl, b3⟩
     have G2a := Lib.hid (G2.out.step b3)
     have G1b := Lib.hid (G1a.out.step b3)
     have B3 := Lib.hid (below_le B2.out b3)
     clear b3
     go_wp2_with fail
     refine (C6.out _ _ _ _ G1b.out).mono ?_
     rintro e w4 ⟨rfl, b4⟩
     have G2b := Lib.hid (G2a.out.step b4)
     have G1c := Lib.hid (G1b.out.step b4)
     have B4 := Lib.hid (below_le B3.out b4)
     clear b4
     go_wp2_with fail
     refine (C7.out _ _ _ _ G1c.out).mono ?_
     rintro e w5 ⟨A5, n5, c5, rfl, g5, b5⟩
     have G5 := Lib.hid g5
     have G25 := Lib.hid (G2b.out.step b5)
     have B5 := Lib.hid (below_le B4.out b5)
     clear g5 b5
     go_wp2_with fail
     refine (C8.out _ _ _ _ _ _ _ G5.out G25.out).mono ?_
     rintro e w6 ⟨A6, n6, c6, A7, n7, c7, rfl, g6, g7, b6⟩
     have G6 := Lib.hid g6
     have B6 := Lib.hid (below_le B5.out b6)
     have hn7 : (0 : Int) < (n7 : Int) := by
      have h1 := g7.len
      have h2 : (wds (M % D)) ≠ [] := fun e => HREM.out (by have h3 := wds_val (M % D); rw [e] at h3; exact h3.symm)
      have := List.length_pos_iff.2 h2
      omega
     clear g6 g7 b6
     go_wp2_with fail
     refine (C9.out _ _ _ _ G6.out).mono ?_
     rintro e w7 ⟨A8, n8, c8, rfl, g8, b7⟩
     have G8 := Lib.hid g8
     have B7 := Lib.hid (below_le B6.out b7)
     clear g8 b7
     have bl := Lib.hid (show Below w7.heap.size w7 (w7.alloc (.cells #[.int .u32 1] 42)) from (Below.refl _ _).alloc (Nat.le_refl _) _)
     have C10' := Lib.hid (C10.out _ _ _ _ _ _ _ (G8.out.step bl.out) (NV.lit w7 1 (by omega) (by omega)))
     go_wp2_with fail
     refine C10'.out.mono ?_
     rintro e w8 ⟨A9, n9, c9, rfl, g9, b8⟩
     have G9 := Lib.hid g9
     have B8 := Lib.hid (below_le (below_le B7.out bl.out) b8)
     clear g9 b8
     go_wp2_with fail
     refine (C11.out _ _ _ _ G9.out).mono ?_
     rintro e w9 ⟨rfl, b9⟩
     have B9 := Lib.hid (below_le B8.out b9)
     clear b9
     go_wp2
     go_ret
     exact ⟨rfl, B9.out⟩

end Go.Proofs.YtfcpkdafkmohkaaGreatDoor
namespace Go.Proofs.YtfcpkdafkmohkaaGreatDoor
open Go.RowKit
theorem yneg_pack (m k : Nat) (h0 : 0 < m) (hb : bln m ≤ 3300) (hk : k ≤ 1300) : ∃ (D M bd ba : Nat) (U : Int), U = max 0 ((bd : Int) - ba + 70) ∧ bd ≤ 6000 ∧ ba ≤ 6000 ∧
  Hid (∀ W, Cp 115 #[.int .i64 (k : Nat)] W (NRet D W)) ∧
  Hid (∀ W A1 n1 c1, NV W A1 n1 c1 D → Ct 163 #[.slice A1 n1 c1] (.int .i64 (bd : Nat)) W) ∧
  Hid (∀ W A1 n1 c1, NV W A1 n1 c1 m → Ct 163 #[.slice A1 n1 c1] (.int .i64 (ba : Nat)) W) ∧
  Hid (∀ W A1 n1 c1, NV W A1 n1 c1 m → Cp 102 #[.slice A1 n1 c1, .int .i64 U] W (NRet M W)) ∧
  Hid (∀ W A1 n1 c1 A2 n2 c2, NV W A1 n1 c1 M → NV W A2 n2 c2 D → Cp 49 #[.slice A1 n1 c1, .slice A2 n2 c2] W (HRet M D W)) ∧
  Hid (∀ W A1 n1 c1, NV W A1 n1 c1 (M / D) → Cp 102 #[.slice A1 n1 c1, .int .i64 1] W (NRet (M / D * 2) W)) ∧
  Hid (∀ W A1 n1 c1 A2 n2 c2, NV W A1 n1 c1 (M / D * 2) → NV W A2 n2 c2 1 → Cp 103 #[.slice A1 n1 c1, .slice A2 n2 c2] W (NRet (M / D * 2 + 1) W)) ∧
  (M % D = 0 → Hid (∀ W A1 n1 c1, NV W A1 n1 c1 (M / D * 2) → Ct 154 #[.slice A1 n1 c1, .int .i64 (-U - 1)] (.float .f64 (decR m (-(k : Int)))) W)) ∧
  (M % D ≠ 0 → Hid (∀ W A1 n1 c1, NV W A1 n1 c1 (M / D * 2 + 1) → Ct 154 #[.slice A1 n1 c1, .int .i64 (-U - 1)] (.float .f64 (decR m (-(k : Int)))) W)) := by
 obtain ⟨u1, u2, u3⟩ := bln_bounds h0
 obtain ⟨v1, v2, v3⟩ := bln_bounds (ten_pos k)
 have ft := bln_ten k
 obtain ⟨D, hD⟩ : ∃ D, 10 ^ k = D := ⟨_, rfl⟩
 rw [hD] at v1 v2 v3 ft
 obtain ⟨bd, hbd⟩ : ∃ bd, bln D = bd := ⟨_, rfl⟩
 obtain ⟨ba, hba⟩ : ∃ ba, bln m = ba := ⟨_, rfl⟩
 have hD0 : 0 < D := by rw [← hD]; exact ten_pos k
 obtain ⟨up, hup⟩ : ∃ up : Nat, (up : Int) = max 0 ((bd : Int) - ba + 70) := ⟨(max 0 ((bd : Int) - ba + 70)).toNat, by omega⟩
 have g1 := bln_mul m (2 ^ up)
 have g2 := bln_pow2 up
 obtain ⟨M, hM⟩ : ∃ M, m * 2 ^ up = M := ⟨_, rfl⟩
 have hM0 : 0 < M := by rw [← hM]; exact Nat.mul_pos h0 (two_pos _)
 rw [hM] at g1
 rw [hba] at hb u1 u2 u3 g1
 rw [hbd] at v1 v2 v3 ft
 have hup2 : up ≤ 5400 := by omega
 obtain ⟨p, rfl⟩ : ∃ p, ba = p + 1 := ⟨ba - 1, by omega⟩
 obtain ⟨r, rfl⟩ : ∃ r, bd = r + 1 := ⟨bd - 1, by omega⟩
 rw [Nat.add_sub_cancel] at u1 v1
 have hbig := (quot_bits (x := up) (y := 0) u1 u2 v1 v2 60).2 (by omega)
 rw [Nat.pow_zero, Nat.mul_one, hM] at hbig
 have hqM : M / D ≤ M := Nat.div_le_self _ _
 have l1 := bln_mono hqM
 have l2 := bln_mono (show M / D * 2 ≤ M * 4 by omega)
 have l3 := bln_mono (show M / D * 2 + 1 ≤ M * 4 by omega)
 have l4 := bln_mul M 4
 rw [show bln 4 = 3 by decide] at l4
 obtain ⟨q, hq⟩ : ∃ q, M / D = q := ⟨_, rfl⟩
 obtain ⟨t, ht⟩ : ∃ t, M % D = t := ⟨_, rfl⟩
 have hNd : M = q * D + t := by rw [← hq, ← ht, Nat.mul_comm]; exact (Nat.div_add_mod M D).symm
 have htd : t < D := by rw [← ht]; exact Nat.mod_lt _ hD0
 obtain ⟨a, ha⟩ : ∃ a, 1074 - up = a := ⟨_, rfl⟩
 obtain ⟨b, hb2⟩ : ∃ b, up - 1074 = b := ⟨_, rfl⟩
 have key := fun s hs => decR_refq (m := m) (N := M) (q := q) (t := t) (s := s) (k := k) (up := up) (a := a) (b := b) hM.symm (by rw [hD]; exact hNd) (by rw [hD]; exact htd) hs (by rw [← hq]; exact hbig) ha.symm hb2.symm
 rw [hq] at l1 l2 l3
 refine ⟨D, M, r + 1, p + 1, (up : Int), hup, by omega, by omega, Lib.hid (fun W => ?_), Lib.hid (fun W A1 n1 c1 h => ?_), Lib.hid (fun W A1 n1 c1 h => ?_), Lib.hid (fun W A1 n1 c1 h => ?_), Lib.hid (fun W A1 n1 c1 A2 n2 c2 h g => rnhalved h g (by omega) (by omega) hD0), Lib.hid (fun W A1 n1 c1 h => ?_), Lib.hid (fun W A1 n1 c1 A2 n2 c2 h g => rnplus h g (by rw [hq]; omega) (by decide)), ?_, ?_⟩
 ·rw [← hD]; exact ypow_any k W (by omega)
 ·rw [← hbd]; exact rnbits h (by omega)
 ·rw [← hba]; exact rnbits h (by omega)
 ·rw [← hM]; exact rnup h up (by omega) (by omega)
 ·exact rnup h 1 (by rw [hq]; omega) (by omega)
 ·rw [hq, ht]
  intro h1
  have k1 := key 0 (by rw [if_pos h1])
  rw [Nat.add_zero, Nat.mul_comm 2 q] at k1
  exact Lib.hid (fun W A1 n1 c1 h => by rw [← k1]; exact rnnear h (by omega) a (b + 1) (-(up : Int) - 1) (by omega) (by omega) (by omega))
 ·rw [hq, ht]
  intro h1
  have k1 := key 1 (by rw [if_neg h1])
  rw [Nat.mul_comm 2 q] at k1
  exact Lib.hid (fun W A1 n1 c1 h => by rw [← k1]; exact rnnear h (by omega) a (b + 1) (-(up : Int) - 1) (by omega) (by omega) (by omega))
theorem ypos_pack (m k : Nat) (hb : bln m ≤ 3300) (hk : k ≤ 1300) : ∃ (D M : Nat),
  Hid (∀ W, Cp 115 #[.int .i64 (k : Nat)] W (NRet D W)) ∧
  Hid (∀ W A1 n1 c1 A2 n2 c2, NV W A1 n1 c1 m → NV W A2 n2 c2 D → Cp 51 #[.slice A1 n1 c1, .slice A2 n2 c2] W (NRet M W)) ∧
  Hid (∀ W A1 n1 c1, NV W A1 n1 c1 M → Ct 154 #[.slice A1 n1 c1, .int .i64 0] (.float .f64 (decR m (k : Int))) W) := by
 have ft := bln_ten k
 have g1 := bln_mul m (10 ^ k)
 refine ⟨10 ^ k, m * 10 ^ k, Lib.hid (fun W => ypow_any k W (by omega)), Lib.hid (fun W A1 n1 c1 A2 n2 c2 h g => rntimes h g (by omega) (by omega)), Lib.hid (fun W A1 n1 c1 h => ?_)⟩
 obtain ⟨K, hK, hd⟩ := decR_K
 have := rnnear h (by omega) K 0 0 (by omega) (by omega) (by omega)
 rw [hd, show ((k : Int)).toNat = k by omega, show (-(k : Int)).toNat = 0 by omega]
 exact this
theorem ydec_short (s : ByteArray) (K N : Nat) (X P : Int) (m : Nat) (w : World) (hs : s.size ≤ 281474976710656) (hK : K ≤ s.size) (hN : s.size - K = N)
  (Z1 : Hid (∀ k (h : k < s.size), k < K → (s[k]'h).toNat = 48)) (Z2 : Hid (∀ h : K < s.size, (s[K]'h).toNat ≠ 48))
  (hN0 : 0 < N) (p1 : wrap64 ((N : Int) + X) = P) (t0 : ((N : Int) == 0) = false) (t1 : decide (400 < P) = false) (t2 : decide (P < -400) = false) (t3 : decide (820 < (N : Int)) = false)
  (C3 : Hid (∀ W, Cp 165 #[.string (s.extract K s.size), .int .i64 10] W (NOk m W))) (h0 : 0 < m) (hb : bln m ≤ 3300) (hE1 : -1300 ≤ X) (hE2 : X ≤ 1300) :
  Ct 104 #[.string s, .int .i64 X] (.float .f64 (decR m X)) w := by
 by_cases hp : 0 ≤ X
 ·obtain ⟨k, rfl⟩ : ∃ k : Nat, X = k := ⟨X.toNat, by omega⟩
  obtain ⟨D, M, C4, C5, C6⟩ := ypos_pack m k hb (by omega)
  exact ydec_short_pos (w := w) (hs := hs) (hK := hK) (hN := hN) (Z1 := Z1) (Z2 := Z2) (C3 := C3) (C4 := C4) (C5 := C5) (C6 := C6) (u0 := decide_eq_true hp) (hN0 := hN0) (p1 := p1) (t0 := t0) (t1 := t1) (t2 := t2) (t3 := t3)
 ·obtain ⟨k, rfl⟩ : ∃ k : Nat, X = -(k : Int) := ⟨(-X).toNat, by omega⟩
  obtain ⟨D, M, bd, ba, U, hU, e1, e2, C4, C5, C6, C7, C8, C9, C10, C11, C12⟩ := yneg_pack m k h0 hb (by omega)
  rw [show (k : Int) = -(-(k : Int)) by omega] at C4
  have u0 : decide (0 ≤ -(k : Int)) = false := decide_eq_false hp
  have u1 : wrap64 (- -(k : Int)) = - -(k : Int) := by unfold wrap64; omega
  have u2 : wrap64 ((bd : Int) - (ba : Int)) = (bd : Int) - ba := by unfold wrap64; omega
  have u3 : wrap64 ((bd : Int) - ba + 70) = (bd : Int) - ba + 70 := by unfold wrap64; omega
  by_cases hU0 : (bd : Int) - ba + 70 < 0
  ·obtain rfl : U = 0 := by omega
   have u4 : decide ((bd : Int) - ba + 70 < 0) = true := decide_eq_true hU0
   by_cases hr : M % D = 0
   ·exact ydec_short_neg00 (w := w) (hs := hs) (hK := hK) (hN := hN) (Z1 := Z1) (Z2 := Z2) (C3 := C3) (C4 := C4) (C5 := C5) (C6 := C6) (C7 := C7) (C8 := C8) (C9 := C9) (C11 := C11 hr) (hrem := hr) (u0 := u0) (u1 := u1) (u2 := u2) (u3 := u3) (u4 := u4) (u6 := by omega) (hN0 := hN0) (p1 := p1) (t0 := t0) (t1 := t1) (t2 := t2) (t3 := t3)
   ·exact ydec_short_neg01 (w := w) (hs := hs) (hK := hK) (hN := hN) (Z1 := Z1) (Z2 := Z2) (C3 := C3) (C4 := C4) (C5 := C5) (C6 := C6) (C7 := C7) (C8 := C8) (C9 := C9) (C10 := C10) (C11 := C12 hr) (hrem := hr) (u0 := u0) (u1 := u1) (u2 := u2) (u3 := u3) (u4 := u4) (u6 := by omega) (hN0 := hN0) (p1 := p1) (t0 := t0) (t1 := t1) (t2 := t2) (t3 := t3)
  ·obtain rfl : U = (bd : Int) - ba + 70 := by omega
   have u4 : decide ((bd : Int) - ba + 70 < 0) = false := decide_eq_false hU0
   have u5 : wrap64 (-((bd : Int) - ba + 70)) = -((bd : Int) - ba + 70) := by unfold wrap64; omega
   have u6 : wrap64 (-((bd : Int) - ba + 70) - 1) = -((bd : Int) - ba + 70) - 1 := by unfold wrap64; omega
   by_cases hr : M % D = 0
   ·exact ydec_short_neg10 (w := w) (hs := hs) (hK := hK) (hN := hN) (Z1 := Z1) (Z2 := Z2) (C3 := C3) (C4 := C4) (C5 := C5) (C6 := C6) (C7 := C7) (C8 := C8) (C9 := C9) (C11 := C11 hr) (hrem := hr) (u0 := u0) (u1 := u1) (u2 := u2) (u3 := u3) (u4 := u4) (u5 := u5) (u6 := u6) (hN0 := hN0) (p1 := p1) (t0 := t0) (t1 := t1) (t2 := t2) (t3 := t3)
   ·exact ydec_short_neg11 (w := w) (hs := hs) (hK := hK) (hN := hN) (Z1 := Z1) (Z2 := Z2) (C3 := C3) (C4 := C4) (C5 := C5) (C6 := C6) (C7 := C7) (C8 := C8) (C9 := C9) (C10 := C10) (C11 := C12 hr) (hrem := hr) (u0 := u0) (u1 := u1) (u2 := u2) (u3 := u3) (u4 := u4) (u5 := u5) (u6 := u6) (hN0 := hN0) (p1 := p1) (t0 := t0) (t1 := t1) (t2 := t2) (t3 := t3)
theorem ydec_longn (s : ByteArray) (K N : Nat) (X P : Int) (m : Nat) (g : ByteArray) (y1 : Int) (E : Int) (w : World) (hs : s.size ≤ 281474976710656) (hK : K ≤ s.size) (hN : s.size - K = N)
  (Z1 : Hid (∀ k (h : k < s.size), k < K → (s[k]'h).toNat = 48)) (Z2 : Hid (∀ h : K < s.size, (s[K]'h).toNat ≠ 48))
  (hN0 : 0 < N) (p1 : wrap64 ((N : Int) + X) = P) (t0 : ((N : Int) == 0) = false) (t1 : decide (400 < P) = false) (t2 : decide (P < -400) = false) (t3 : decide (820 < (N : Int)) = true)
  (hg : s.extract K s.size = g) (hgN : g.size = N) (hN8 : 820 < N) (hrb : ((bl g).drop 810).any (· != 48) = false)
  (q0 : wrap64 (X + (N : Int)) = y1) (q1 : wrap64 (y1 - 810) = E)
  (C3 : Hid (∀ W, Cp 165 #[.string (g.extract 0 810), .int .i64 10] W (NOk m W))) (h0 : 0 < m) (hb : bln m ≤ 3300) (hE1 : -1300 ≤ E) (hE2 : E ≤ 1300) :
  Ct 104 #[.string s, .int .i64 X] (.float .f64 (decR m E)) w := by
 by_cases hp : 0 ≤ E
 ·obtain ⟨k, rfl⟩ : ∃ k : Nat, E = k := ⟨E.toNat, by omega⟩
  obtain ⟨D, M, C4, C5, C6⟩ := ypos_pack m k hb (by omega)
  exact ydec_longn_pos (w := w) (hs := hs) (hK := hK) (hN := hN) (Z1 := Z1) (Z2 := Z2) (C3 := C3) (C4 := C4) (C5 := C5) (C6 := C6) (u0 := decide_eq_true hp) (hN0 := hN0) (p1 := p1) (t0 := t0) (t1 := t1) (t2 := t2) (t3 := t3) (hg := hg) (hgN := hgN) (hN8 := hN8) (hrb := hrb) (q0 := q0) (q1 := q1)
 ·obtain ⟨k, rfl⟩ : ∃ k : Nat, E = -(k : Int) := ⟨(-E).toNat, by omega⟩
  obtain ⟨D, M, bd, ba, U, hU, e1, e2, C4, C5, C6, C7, C8, C9, C10, C11, C12⟩ := yneg_pack m k h0 hb (by omega)
  rw [show (k : Int) = -(-(k : Int)) by omega] at C4
  have u0 : decide (0 ≤ -(k : Int)) = false := decide_eq_false hp
  have u1 : wrap64 (- -(k : Int)) = - -(k : Int) := by unfold wrap64; omega
  have u2 : wrap64 ((bd : Int) - (ba : Int)) = (bd : Int) - ba := by unfold wrap64; omega
  have u3 : wrap64 ((bd : Int) - ba + 70) = (bd : Int) - ba + 70 := by unfold wrap64; omega
  by_cases hU0 : (bd : Int) - ba + 70 < 0
  ·obtain rfl : U = 0 := by omega
   have u4 : decide ((bd : Int) - ba + 70 < 0) = true := decide_eq_true hU0
   by_cases hr : M % D = 0
   ·exact ydec_longn_neg00 (w := w) (hs := hs) (hK := hK) (hN := hN) (Z1 := Z1) (Z2 := Z2) (C3 := C3) (C4 := C4) (C5 := C5) (C6 := C6) (C7 := C7) (C8 := C8) (C9 := C9) (C11 := C11 hr) (hrem := hr) (u0 := u0) (u1 := u1) (u2 := u2) (u3 := u3) (u4 := u4) (u6 := by omega) (hN0 := hN0) (p1 := p1) (t0 := t0) (t1 := t1) (t2 := t2) (t3 := t3) (hg := hg) (hgN := hgN) (hN8 := hN8) (hrb := hrb) (q0 := q0) (q1 := q1)
   ·exact ydec_longn_neg01 (w := w) (hs := hs) (hK := hK) (hN := hN) (Z1 := Z1) (Z2 := Z2) (C3 := C3) (C4 := C4) (C5 := C5) (C6 := C6) (C7 := C7) (C8 := C8) (C9 := C9) (C10 := C10) (C11 := C12 hr) (hrem := hr) (u0 := u0) (u1 := u1) (u2 := u2) (u3 := u3) (u4 := u4) (u6 := by omega) (hN0 := hN0) (p1 := p1) (t0 := t0) (t1 := t1) (t2 := t2) (t3 := t3) (hg := hg) (hgN := hgN) (hN8 := hN8) (hrb := hrb) (q0 := q0) (q1 := q1)
  ·obtain rfl : U = (bd : Int) - ba + 70 := by omega
   have u4 : decide ((bd : Int) - ba + 70 < 0) = false := decide_eq_false hU0
   have u5 : wrap64 (-((bd : Int) - ba + 70)) = -((bd : Int) - ba + 70) := by unfold wrap64; omega
   have u6 : wrap64 (-((bd : Int) - ba + 70) - 1) = -((bd : Int) - ba + 70) - 1 := by unfold wrap64; omega
   by_cases hr : M % D = 0
   ·exact ydec_longn_neg10 (w := w) (hs := hs) (hK := hK) (hN := hN) (Z1 := Z1) (Z2 := Z2) (C3 := C3) (C4 := C4) (C5 := C5) (C6 := C6) (C7 := C7) (C8 := C8) (C9 := C9) (C11 := C11 hr) (hrem := hr) (u0 := u0) (u1 := u1) (u2 := u2) (u3 := u3) (u4 := u4) (u5 := u5) (u6 := u6) (hN0 := hN0) (p1 := p1) (t0 := t0) (t1 := t1) (t2 := t2) (t3 := t3) (hg := hg) (hgN := hgN) (hN8 := hN8) (hrb := hrb) (q0 := q0) (q1 := q1)
   ·exact ydec_longn_neg11 (w := w) (hs := hs) (hK := hK) (hN := hN) (Z1 := Z1) (Z2 := Z2) (C3 := C3) (C4 := C4) (C5 := C5) (C6 := C6) (C7 := C7) (C8 := C8) (C9 := C9) (C10 := C10) (C11 := C12 hr) (hrem := hr) (u0 := u0) (u1 := u1) (u2 := u2) (u3 := u3) (u4 := u4) (u5 := u5) (u6 := u6) (hN0 := hN0) (p1 := p1) (t0 := t0) (t1 := t1) (t2 := t2) (t3 := t3) (hg := hg) (hgN := hgN) (hN8 := hN8) (hrb := hrb) (q0 := q0) (q1 := q1)
theorem ydec_longr (s : ByteArray) (K N : Nat) (X P : Int) (m : Nat) (g : ByteArray) (y1 y2 : Int) (E : Int) (w : World) (hs : s.size ≤ 281474976710656) (hK : K ≤ s.size) (hN : s.size - K = N)
  (Z1 : Hid (∀ k (h : k < s.size), k < K → (s[k]'h).toNat = 48)) (Z2 : Hid (∀ h : K < s.size, (s[K]'h).toNat ≠ 48))
  (hN0 : 0 < N) (p1 : wrap64 ((N : Int) + X) = P) (t0 : ((N : Int) == 0) = false) (t1 : decide (400 < P) = false) (t2 : decide (P < -400) = false) (t3 : decide (820 < (N : Int)) = true)
  (hg : s.extract K s.size = g) (hgN : g.size = N) (hN8 : 820 < N) (hrb : ((bl g).drop 810).any (· != 48) = true)
  (q0 : wrap64 (X + (N : Int)) = y1) (q1 : wrap64 (y1 - 810) = y2) (q2 : wrap64 (y2 - 1) = E) (q3 : ¬ 9223372036854775807 < (g.extract 0 810).size + 1)
  (C3 : Hid (∀ W, Cp 165 #[.string (g.extract 0 810 ++ ⟨#[49]⟩), .int .i64 10] W (NOk m W))) (h0 : 0 < m) (hb : bln m ≤ 3300) (hE1 : -1300 ≤ E) (hE2 : E ≤ 1300) :
  Ct 104 #[.string s, .int .i64 X] (.float .f64 (decR m E)) w := by
 by_cases hp : 0 ≤ E
 ·obtain ⟨k, rfl⟩ : ∃ k : Nat, E = k := ⟨E.toNat, by omega⟩
  obtain ⟨D, M, C4, C5, C6⟩ := ypos_pack m k hb (by omega)
  exact ydec_longr_pos (w := w) (hs := hs) (hK := hK) (hN := hN) (Z1 := Z1) (Z2 := Z2) (C3 := C3) (C4 := C4) (C5 := C5) (C6 := C6) (u0 := decide_eq_true hp) (hN0 := hN0) (p1 := p1) (t0 := t0) (t1 := t1) (t2 := t2) (t3 := t3) (hg := hg) (hgN := hgN) (hN8 := hN8) (hrb := hrb) (q0 := q0) (q1 := q1) (q2 := q2) (_q3 := q3)
 ·obtain ⟨k, rfl⟩ : ∃ k : Nat, E = -(k : Int) := ⟨(-E).toNat, by omega⟩
  obtain ⟨D, M, bd, ba, U, hU, e1, e2, C4, C5, C6, C7, C8, C9, C10, C11, C12⟩ := yneg_pack m k h0 hb (by omega)
  rw [show (k : Int) = -(-(k : Int)) by omega] at C4
  have u0 : decide (0 ≤ -(k : Int)) = false := decide_eq_false hp
  have u1 : wrap64 (- -(k : Int)) = - -(k : Int) := by unfold wrap64; omega
  have u2 : wrap64 ((bd : Int) - (ba : Int)) = (bd : Int) - ba := by unfold wrap64; omega
  have u3 : wrap64 ((bd : Int) - ba + 70) = (bd : Int) - ba + 70 := by unfold wrap64; omega
  by_cases hU0 : (bd : Int) - ba + 70 < 0
  ·obtain rfl : U = 0 := by omega
   have u4 : decide ((bd : Int) - ba + 70 < 0) = true := decide_eq_true hU0
   by_cases hr : M % D = 0
   ·exact ydec_longr_neg00 (w := w) (hs := hs) (hK := hK) (hN := hN) (Z1 := Z1) (Z2 := Z2) (C3 := C3) (C4 := C4) (C5 := C5) (C6 := C6) (C7 := C7) (C8 := C8) (C9 := C9) (C11 := C11 hr) (hrem := hr) (u0 := u0) (u1 := u1) (u2 := u2) (u3 := u3) (u4 := u4) (u6 := by omega) (hN0 := hN0) (p1 := p1) (t0 := t0) (t1 := t1) (t2 := t2) (t3 := t3) (hg := hg) (hgN := hgN) (hN8 := hN8) (hrb := hrb) (q0 := q0) (q1 := q1) (q2 := q2) (_q3 := q3)
   ·exact ydec_longr_neg01 (w := w) (hs := hs) (hK := hK) (hN := hN) (Z1 := Z1) (Z2 := Z2) (C3 := C3) (C4 := C4) (C5 := C5) (C6 := C6) (C7 := C7) (C8 := C8) (C9 := C9) (C10 := C10) (C11 := C12 hr) (hrem := hr) (u0 := u0) (u1 := u1) (u2 := u2) (u3 := u3) (u4 := u4) (u6 := by omega) (hN0 := hN0) (p1 := p1) (t0 := t0) (t1 := t1) (t2 := t2) (t3 := t3) (hg := hg) (hgN := hgN) (hN8 := hN8) (hrb := hrb) (q0 := q0) (q1 := q1) (q2 := q2) (_q3 := q3)
  ·obtain rfl : U = (bd : Int) - ba + 70 := by omega
   have u4 : decide ((bd : Int) - ba + 70 < 0) = false := decide_eq_false hU0
   have u5 : wrap64 (-((bd : Int) - ba + 70)) = -((bd : Int) - ba + 70) := by unfold wrap64; omega
   have u6 : wrap64 (-((bd : Int) - ba + 70) - 1) = -((bd : Int) - ba + 70) - 1 := by unfold wrap64; omega
   by_cases hr : M % D = 0
   ·exact ydec_longr_neg10 (w := w) (hs := hs) (hK := hK) (hN := hN) (Z1 := Z1) (Z2 := Z2) (C3 := C3) (C4 := C4) (C5 := C5) (C6 := C6) (C7 := C7) (C8 := C8) (C9 := C9) (C11 := C11 hr) (hrem := hr) (u0 := u0) (u1 := u1) (u2 := u2) (u3 := u3) (u4 := u4) (u5 := u5) (u6 := u6) (hN0 := hN0) (p1 := p1) (t0 := t0) (t1 := t1) (t2 := t2) (t3 := t3) (hg := hg) (hgN := hgN) (hN8 := hN8) (hrb := hrb) (q0 := q0) (q1 := q1) (q2 := q2) (_q3 := q3)
   ·exact ydec_longr_neg11 (w := w) (hs := hs) (hK := hK) (hN := hN) (Z1 := Z1) (Z2 := Z2) (C3 := C3) (C4 := C4) (C5 := C5) (C6 := C6) (C7 := C7) (C8 := C8) (C9 := C9) (C10 := C10) (C11 := C12 hr) (hrem := hr) (u0 := u0) (u1 := u1) (u2 := u2) (u3 := u3) (u4 := u4) (u5 := u5) (u6 := u6) (hN0 := hN0) (p1 := p1) (t0 := t0) (t1 := t1) (t2 := t2) (t3 := t3) (hg := hg) (hgN := hgN) (hN8 := hN8) (hrb := hrb) (q0 := q0) (q1 := q1) (q2 := q2) (_q3 := q3)
theorem rparse_dec (l : List Nat) (w : World) (hd : ∀ c ∈ l, dg10 c = true) (h0 : l ≠ []) (hl : l.length ≤ 820) : Cp 165 #[.string (strOf l), .int .i64 10] w (NOk (num 10 l) w) := by
 have hb := bl_strOf (dg_byte hd)
 have hz := strOf_size l
 have hp : 0 < l.length := List.length_pos_iff.2 h0
 have h := rparse_ok (strOf l) 10 w (by omega) (by omega) (by omega) (fun i hi => by
  rw [btn_bl _ _ hi, hb, List.getD_eq_getElem?_getD, List.getElem?_eq_getElem (by omega)]
  exact (dgt_ten (hd _ (List.getElem_mem _))).2) (by omega)
 rw [sv_num, hb] at h
 refine h.mono fun e w' x => NOk.of (lng_bln ?_) x
 have h1 := num_hi hd
 have h2 := bln_mono (Nat.le_of_lt h1)
 have h3 := bln_ten l.length
 omega
theorem bln_dec2 {l : List Nat} (hd : ∀ c ∈ l, dg10 c = true) (hl : l.length ≤ 820) : bln (num 10 l) ≤ 3300 := by
 have h2 := bln_mono (Nat.le_of_lt (num_hi hd))
 have h3 := bln_ten l.length
 omega
theorem ldz_drop (f : List Nat) : f.drop (f.length - (ldz f).length) = ldz f := by
 obtain ⟨z, hz⟩ := dropWhile_zeros f
 have hz' : f = List.replicate z 48 ++ ldz f := hz
 have hl := congrArg List.length hz'
 rw [List.length_append, List.length_replicate] at hl
 rw [show f.length - (ldz f).length = z by omega]
 conv => lhs; rw [hz']
 rw [List.drop_append, List.drop_of_length_le (by simp)]
 simp
theorem ldz_ahead (f : List Nat) (k : Nat) (h : k < f.length - (ldz f).length) : f[k]? = some 48 := by
 obtain ⟨z, hz⟩ := dropWhile_zeros f
 have hz' : f = List.replicate z 48 ++ ldz f := hz
 have hl := congrArg List.length hz'
 rw [List.length_append, List.length_replicate] at hl
 rw [hz', List.getElem?_append_left (by rw [List.length_replicate]; omega), List.getElem?_replicate, if_pos (by omega)]
theorem ydecimal_any (f : List Nat) (X : Int) (w : World) (hd : ∀ c ∈ f, dg10 c = true) (hl : f.length ≤ 281474976710656) (hX : -1125899906842624 < X ∧ X < 1125899906842624) :
  Ct 104 #[.string (strOf f), .int .i64 X] (.float .f64 (decR (num 10 f) X)) w := by
 have hb := bl_strOf (dg_byte hd)
 have hz := strOf_size f
 have hg : ∀ c ∈ ldz f, dg10 c = true := fun c hc => hd c (ldz_mem hc)
 have hgl : (ldz f).length ≤ f.length := (List.dropWhile_sublist _).length_le
 have hdr := ldz_drop f
 have hex : (strOf f).extract (f.length - (ldz f).length) (strOf f).size = strOf (ldz f) := by rw [ext_drop, hb, hdr]
 have hnum : num 10 (ldz f) = num 10 f := num_lead 10 f
 have Z1 : Hid (∀ k (h : k < (strOf f).size), k < f.length - (ldz f).length → ((strOf f)[k]'h).toNat = 48) := Lib.hid (fun k h hk => by
  have h1 := bl_get (strOf f) k h
  rw [hb, ldz_ahead f k hk] at h1
  exact (Option.some.inj h1).symm)
 have Z2 : Hid (∀ h : f.length - (ldz f).length < (strOf f).size, ((strOf f)[f.length - (ldz f).length]'h).toNat ≠ 48) := Lib.hid (fun h e => by
  have h1 := bl_get (strOf f) _ h
  rw [hb, e] at h1
  have h2 : (f.drop (f.length - (ldz f).length)).head? = some 48 := by rw [List.head?_drop]; exact h1
  rw [hdr] at h2
  exact lead_head f h2)
 obtain ⟨N, hN⟩ : ∃ N, (ldz f).length = N := ⟨_, rfl⟩
 obtain ⟨K, hK⟩ : ∃ K, f.length - (ldz f).length = K := ⟨_, rfl⟩
 rw [hK] at hex Z1 Z2
 have a1 : (strOf f).size ≤ 281474976710656 := by omega
 have a2 : K ≤ (strOf f).size := by omega
 have a3 : (strOf f).size - K = N := by omega
 by_cases h0 : N = 0
 ·have : ldz f = [] := List.length_eq_zero_iff.1 (by omega)
  rw [show decR (num 10 f) X = 0 by rw [← hnum, this, num_nil, decR_zero]]
  exact ydec_none (strOf f) K N X w a1 a2 a3 Z1 Z2 h0
 ·have hne : ldz f ≠ [] := fun e => h0 (by rw [← hN, e]; rfl)
  have p1 : wrap64 ((N : Int) + X) = (N : Int) + X := by unfold wrap64; omega
  have t0 : ((N : Int) == 0) = false := by rw [beq_eq_false_iff_ne]; omega
  by_cases h1 : 400 < (N : Int) + X
  ·rw [rway_high hd hne (by omega)]
   exact ydec_high (strOf f) K N X _ w a1 a2 a3 Z1 Z2 (by omega) p1 t0 (decide_eq_true h1)
  ·by_cases h2 : (N : Int) + X < -400
   ·rw [← hnum, decR_tiny (num_hi hg) (by omega)]
    exact ydec_low (strOf f) K N X _ w a1 a2 a3 Z1 Z2 (by omega) p1 t0 (decide_eq_false h1) (decide_eq_true h2)
   ·by_cases h3 : 820 < (N : Int)
    ·have hlen : (strOf (ldz f)).size = N := by rw [strOf_size, hN]
     have hbg := bl_strOf (dg_byte hg)
     have q0 : wrap64 (X + (N : Int)) = X + N := by unfold wrap64; omega
     have hlt : ((ldz f).take 810).length = 810 := by rw [List.length_take]; omega
     have htd : ∀ c ∈ (ldz f).take 810, dg10 c = true := fun c hc => hg c (List.mem_of_mem_take hc)
     have ht0 : (ldz f).take 810 ≠ [] := fun e => by rw [e] at hlt; simp at hlt
     have hth : ((ldz f).take 810).head? ≠ some 48 := by rw [head_take (by omega)]; exact lead_head f
     have hx8 : (strOf (ldz f)).extract 0 810 = strOf ((ldz f).take 810) := by rw [ext_take, hbg]
     cases hrb : ((ldz f).drop 810).any (· != 48)
     ·have hc : ∀ c ∈ (ldz f).drop 810, c = 48 := fun c hc => by
       have := List.any_eq_false.1 hrb c hc
       simpa using this
      rw [rway_none hc, hN, show X + ((N - 810 : Nat) : Int) = X + N - 810 by omega]
      have C3 : Hid (∀ W, Cp 165 #[.string ((strOf (ldz f)).extract 0 810), .int .i64 10] W (NOk (num 10 ((ldz f).take 810)) W)) := Lib.hid (fun W => by
       rw [hx8]
       exact rparse_dec _ W htd ht0 (by omega))
      exact ydec_longn (strOf f) K N X _ (num 10 ((ldz f).take 810)) (strOf (ldz f)) (X + N) (X + N - 810) w a1 a2 a3 Z1 Z2 (by omega) p1 t0 (decide_eq_false h1) (decide_eq_false h2) (decide_eq_true h3) hex hlen (by omega) (by rw [hbg]; exact hrb) q0 (by unfold wrap64; omega) C3
       (Nat.lt_of_lt_of_le (ten_pos _) (num_lo htd ht0 hth)) (bln_dec2 htd (by omega)) (by omega) (by omega)
     ·obtain ⟨c, hc1, hc2⟩ := List.any_eq_true.1 hrb
      rw [rway_some hd (by omega) (by omega) ⟨c, hc1, by simpa using hc2⟩, hN, show X + ((N - 810 : Nat) : Int) - 1 = X + N - 810 - 1 by omega]
      obtain ⟨l, hl2⟩ : ∃ l, (ldz f).take 810 ++ [49] = l := ⟨_, rfl⟩
      have ll : l.length = 811 := by rw [← hl2, List.length_append, hlt]; rfl
      have ld : ∀ c ∈ l, dg10 c = true := by
       intro c hc
       rw [← hl2] at hc
       rcases List.mem_append.1 hc with h | h
       ·exact htd c h
       ·rw [List.mem_singleton.1 h]; rfl
      have l0 : l ≠ [] := fun e => by rw [e] at ll; simp at ll
      have lh : l.head? ≠ some 48 := by
       rw [← hl2]
       cases ht : (ldz f).take 810 with
       | nil => exact absurd ht ht0
       | cons a b =>
        rw [ht] at hth
        exact hth
      have hstr : (strOf (ldz f)).extract 0 810 ++ (⟨#[49]⟩ : ByteArray) = strOf l := by
       rw [hx8, ← hl2, ← strOf_append]
       rfl
      rw [hl2]
      have C3 : Hid (∀ W, Cp 165 #[.string ((strOf (ldz f)).extract 0 810 ++ ⟨#[49]⟩), .int .i64 10] W (NOk (num 10 l) W)) := Lib.hid (fun W => by
       rw [hstr]
       exact rparse_dec _ W ld l0 (by omega))
      exact ydec_longr (strOf f) K N X _ (num 10 l) (strOf (ldz f)) (X + N) (X + N - 810) (X + N - 810 - 1) w a1 a2 a3 Z1 Z2 (by omega) p1 t0 (decide_eq_false h1) (decide_eq_false h2) (decide_eq_true h3) hex hlen (by omega) (by rw [hbg]; exact hrb) q0 (by unfold wrap64; omega) (by unfold wrap64; omega) (by rw [hx8, strOf_size]; omega) C3
       (Nat.lt_of_lt_of_le (ten_pos _) (num_lo ld l0 lh)) (bln_dec2 ld (by omega)) (by omega) (by omega)
    ·rw [← hnum]
     have C3 : Hid (∀ W, Cp 165 #[.string ((strOf f).extract K (strOf f).size), .int .i64 10] W (NOk (num 10 (ldz f)) W)) := Lib.hid (fun W => by
      rw [hex]
      exact rparse_dec _ W hg hne (by omega))
     exact ydec_short (strOf f) K N X _ (num 10 (ldz f)) w a1 a2 a3 Z1 Z2 (by omega) p1 t0 (decide_eq_false h1) (decide_eq_false h2) (decide_eq_false h3) C3
      (Nat.lt_of_lt_of_le (ten_pos _) (num_lo hg hne (lead_head f))) (bln_dec2 hg (by omega)) (by omega) (by omega)

end Go.Proofs.YtfcpkdafkmohkaaGreatDoor
namespace Go.Proofs.YtfcpkdafkmohkaaGreatDoor
open Go.RowKit
def negW (r : Nat) : Nat := Op.negFloat .f64 r
end Go.Proofs.YtfcpkdafkmohkaaGreatDoor
namespace Go.Proofs.YtfcpkdafkmohkaaGreatDoor
open Go.RowKit
theorem negW_eq {r : Nat} (h : r < 9223372036854775808) : negW r = sgW true r := by
 have key : r ^^^ 9223372036854775808 = 2 ^ 63 * 1 + r := by
  rw [show (9223372036854775808 : Nat) = 2 ^ 63 from rfl] at h ⊢
  apply Nat.eq_of_testBit_eq
  intro j
  rw [Nat.testBit_xor, Nat.testBit_two_pow, Nat.testBit_two_pow_mul_add _ h]
  by_cases hj : j < 63
  ·rw [if_pos hj, decide_eq_false (by omega), Bool.xor_false]
  ·rw [if_neg hj]
   obtain ⟨i, rfl⟩ : ∃ i, j = 63 + i := ⟨j - 63, by omega⟩
   rw [Nat.add_sub_cancel_left, Nat.testBit_lt_two_pow (Nat.lt_of_lt_of_le h (Nat.pow_le_pow_right (by omega) (by omega)))]
   cases i with
   | zero => rfl
   | succ i => rw [decide_eq_false (by omega)]; simp [Nat.testBit_succ]
 exact key
end Go.Proofs.YtfcpkdafkmohkaaGreatDoor
namespace Go.Proofs.YtfcpkdafkmohkaaGreatDoor
open Go.RowKit
theorem sgW_f (r : Nat) : sgW false r = r := rfl
end Go.Proofs.YtfcpkdafkmohkaaGreatDoor
namespace Go.Proofs.YtfcpkdafkmohkaaGreatDoor
open Go.RowKit
theorem big_tenth : ∃ X : Nat, 0 < X ∧ big = 72057594037927936 * X ∧ fmag 4591870180066957722 = 7205759403792794 * X ∧ fmag 4591870180066957721 = 7205759403792793 * X ∧ fmag 4591870180066957723 = 7205759403792795 * X := by
 obtain ⟨K, hK, hb⟩ := big_K
 obtain ⟨J, hJ⟩ : ∃ J : Nat, J = 1018 := ⟨_, rfl⟩
 have h1 := fmag_make 7205759403792794 J (by omega) (by omega)
 have h2 := fmag_make 7205759403792793 J (by omega) (by omega)
 have h3 := fmag_make 7205759403792795 J (by omega) (by omega)
 rw [show J * 4503599627370496 + 7205759403792794 = 4591870180066957722 by omega] at h1
 rw [show J * 4503599627370496 + 7205759403792793 = 4591870180066957721 by omega] at h2
 rw [show J * 4503599627370496 + 7205759403792795 = 4591870180066957723 by omega] at h3
 refine ⟨2 ^ J, two_pos J, ?_, h1, h2, h3⟩
 rw [hb, show K = 56 + J by omega, Nat.pow_add]
theorem decR_tenth : decR 1 (-1) = 4591870180066957722 := by
 obtain ⟨X, hX, hb, h1, h2, h3⟩ := big_tenth
 rw [decR_big]
 unfold vV
 rw [show (-(-(-1 : Int))).toNat = 0 by omega, show (-(-1 : Int)).toNat = 1 by omega, Nat.pow_zero, Nat.pow_one, Nat.mul_one, Nat.one_mul, rnd_iff (by omega) (by omega) (by omega), h1, show 4591870180066957722 - 1 = 4591870180066957721 by omega, h2, show 4591870180066957722 + 1 = 4591870180066957723 by omega, h3, hb]
 exact ⟨.inl (by omega), .inl (by omega)⟩
theorem sq_tenth : SQ 4591870180066957722 [49] 0 := by
 obtain ⟨X, hX, hb, h1, _, _⟩ := big_tenth
 have e1 : dL 1 = [49] := dL_small (by omega)
 have hU : vU 4591870180066957722 (((1 : Nat) : Int) - 0) = 72057594037927940 * X := by
  unfold vU
  rw [h1, show (((1 : Nat) : Int) - 0).toNat = 1 by omega, Nat.pow_one]
  omega
 have hV : vV (((1 : Nat) : Int) - 0) = 72057594037927936 * X := by
  unfold vV
  rw [hb, show (-(((1 : Nat) : Int) - 0)).toNat = 0 by omega, Nat.pow_zero, Nat.mul_one]
 have hq : cq 4591870180066957722 0 1 = 1 := by
  unfold cq
  rw [hU, hV, Nat.mul_div_mul_right _ _ hX]
 have hm : vU 4591870180066957722 (((1 : Nat) : Int) - 0) % vV (((1 : Nat) : Int) - 0) = 4 * X := by
  rw [hU, hV, Nat.mul_mod_mul_right]
 have hl : clow 4591870180066957722 0 1 = true := by
  unfold clow
  rw [hq]
  exact decide_eq_true decR_tenth
 have hn : cnear 4591870180066957722 0 1 = true := by
  unfold cnear
  rw [hm, hV, decide_eq_true (by omega), Bool.true_or]
 refine ⟨0, 1, 1, ⟨?_, ?_⟩, by omega, by omega, by omega, ?_, by rw [e1]; rfl, by rw [e1]; rfl⟩
 ·unfold le10
  rw [h1, hb, show ((0 : Int) - 1).toNat = 0 by omega, show (-((0 : Int) - 1)).toNat = 1 by omega, Nat.pow_zero, Nat.pow_one]
  omega
 ·unfold le10
  rw [h1, hb, show (0 : Int).toNat = 0 by omega, show (-(0 : Int)).toNat = 0 by omega, Nat.pow_zero]
  omega
 ·unfold cnd
  rw [hl, hn, hq]
  simp
theorem tx_tenth : TxQ 4591870180066957722 [48, 46, 49] := by
 refine .inr (.inr ⟨by decide, by decide, [48, 46, 49], .inr ⟨by decide, [49], 0, ?_, by decide⟩, by decide⟩)
 have : rung 4591870180066957722 = 4591870180066957722 := by decide
 rw [this]
 exact sq_tenth
theorem num_tenth : numW (nrw 0 (us (trimS (wdS [48, 46, 49])))) = 4591870180066957722 := by
 have h : nrw 0 (us (trimS (wdS [48, 46, 49]))) = [48, 46, 49] := by decide +kernel
 rw [h]
 unfold numW
 rw [if_neg (by decide), if_neg (by decide), if_neg (by decide), if_pos (by decide)]
 have h1 : sgnB [48, 46, 49] = false := by decide
 rw [h1, sgW_f]
 have h2 : unsg [48, 46, 49] = [48, 46, 49] := by decide
 rw [h2]
 unfold dV
 rw [show num 10 (dW [48, 46, 49] ++ dF [48, 46, 49]) = 1 by decide, show dX [48, 46, 49] - ((dF [48, 46, 49]).length : Int) = -1 by decide]
 exact decR_tenth
theorem awake_any (w : World) (ht : Tab10 w) (hz : TzTab w) : Ct 16 #[] (.bool true) w := by
 have C1 := Lib.hid (fun W (hW : W = w) => tText_any (x := 4591870180066957722) (L := [48, 46, 49]) (w := W) (by omega) (hW ▸ ht) (hW ▸ hz) tx_tenth)
 have C2 := Lib.hid (fun W => vwide_any [48, 46, 49] W (by simp) (by simp))
 have C3 := Lib.hid (fun W => tNumber_any (wdS [48, 46, 49]) W (by decide +kernel))
 rw [num_tenth] at C3
 have t1 : (FloatKind.f64.format.order 4591870180066957722 4591870180066957722 == some .eq) = true := by rw [ord_eq_pos (by omega) (by omega)]; exact decide_eq_true rfl
 obtain ⟨S, hS⟩ : ∃ S, wdS [48, 46, 49] = S := ⟨_, rfl⟩
 rw [hS] at C1 C2 C3
 rw [show strOf [48, 46, 49] = ⟨#[48, 46, 49]⟩ from rfl] at C2
 clear ht hz hS
 go_enter Tryz.func16, Tryz.ntmps16
 go_wp2_with fail
 refine (C1.out _ rfl).mono ?_
 rintro e w1 ⟨rfl, b1⟩
 have B1 := Lib.hid b1
 clear b1
 go_wp2_with fail
 refine (C2.out _).mono ?_
 rintro e w2 ⟨rfl, b2⟩
 have B2 := Lib.hid (below_le B1.out b2)
 clear b2
 go_wp2_with fail
 refine (C2.out _).mono ?_
 rintro e w3 ⟨rfl, b3⟩
 have B3 := Lib.hid (below_le B2.out b3)
 clear b3
 go_wp2_with fail
 refine (C3.out _).mono ?_
 rintro e w4 ⟨rfl, b4⟩
 have B4 := Lib.hid (below_le B3.out b4)
 clear b4
 go_wp2
 go_ret
 exact ⟨rfl, B4.out⟩
end Go.Proofs.YtfcpkdafkmohkaaGreatDoor
namespace Go.Proofs.YtfcpkdafkmohkaaGreatDoor
open Go.RowKit
theorem decR_le_inf (N : Nat) (e : Int) : decR N e ≤ 9218868437227405312 := Nat.min_le_right _ _
end Go.Proofs.YtfcpkdafkmohkaaGreatDoor
namespace Go.Proofs.YtfcpkdafkmohkaaGreatDoor
open Go.RowKit
theorem word_low {v : Nat} (h : 0 < v) : ∃ x0, (wds v)[0]? = some x0 ∧ x0 < 4294967296 ∧ x0 % 2 = v % 2 := by
 have hne : (wds v) ≠ [] := by
  intro e
  have := wds_val v
  rw [e] at this
  have h0 : val [] = 0 := rfl
  omega
 have hv := wds_val v
 have hws := wds_ws v
 cases hw : wds v with
 | nil => exact absurd hw hne
 | cons a t =>
  rw [hw] at hv hws
  refine ⟨a, rfl, hws a (by simp), ?_⟩
  rw [← hv]
  show a % 2 = (a + 4294967296 * val t) % 2
  omega
set_option maxRecDepth 100000 in
set_option maxHeartbeats 8000000 in
theorem yDigits_walk {x : Nat} {n : Int} {w : World} {Nf Df : Nat → Nat} {R : ByteArray → Int → Prop} (b1 : -400 ≤ n) (b2 : n ≤ 400)
  (C0 : Hid (∀ W, W = w → Ct 100 #[.float .f64 x] (.int .i64 n) W))
  (CS : Hid (∀ W (k : Nat), k ≤ 17 → Cp 48 #[.float .f64 x, .int .i64 (k - n)] W fun e w' => ∃ A a c C b d, e = .returned (.tuple #[.slice A a c, .slice C b d]) ∧ NV w' A a c (Nf k) ∧ NV w' C b d (Df k) ∧ Below W.heap.size W w'))
  (CH : Hid (∀ W (k : Nat) A a c C b d, k ≤ 17 → NV W A a c (Nf k) → NV W C b d (Df k) → Cp 49 #[.slice A a c, .slice C b d] W (HRet (Nf k) (Df k) W)))
  (CU : Hid (∀ W (k : Nat) A a c, k ≤ 17 → NV W A a c (Nf k % Df k) → Cp 102 #[.slice A a c, .int .i64 1] W (NRet (Nf k % Df k * 2 ^ 1) W)))
  (CC : Hid (∀ W (k : Nat) A a c C b d, k ≤ 17 → NV W A a c (Nf k % Df k * 2 ^ 1) → NV W C b d (Df k) → Cq 101 #[.slice A a c, .slice C b d] (.int .i64 (cmpN (Nf k % Df k * 2 ^ 1) (Df k))) W))
  (CP : Hid (∀ W (k : Nat) A a c C b d, k ≤ 17 → NV W A a c (Nf k / Df k) → NV W C b d 1 → Cp 103 #[.slice A a c, .slice C b d] W (NRet (Nf k / Df k + 1) W)))
  (CN : Hid (∀ W (k : Nat) A a c, k ≤ 17 → NV W A a c (Nf k / Df k) → Ct 105 #[.slice A a c] (.string (strOf (dL (Nf k / Df k)))) W))
  (CM : Hid (∀ W (k : Nat) A a c, k ≤ 17 → NV W A a c (Nf k / Df k + 1) → Ct 105 #[.slice A a c] (.string (strOf (dL (Nf k / Df k + 1)))) W))
  (CD : Hid (∀ W (k v : Nat), k ≤ 17 → v < 10 ^ 18 → Ct 104 #[.string (strOf (dL v)), .int .i64 (n - k)] (.float .f64 (decR v (n - k))) W))
  (hq0 : Hid (∀ k, 1 ≤ k → k ≤ 17 → 0 < Nf k / Df k ∧ Nf k / Df k + 1 < 10 ^ 18))
  (hlow : Hid (∀ k, 1 ≤ k → k ≤ 17 → (FloatKind.f64.format.order (decR (Nf k / Df k) (n - k)) x == some .eq) = clow x n k))
  (hhigh : Hid (∀ k, 1 ≤ k → k ≤ 17 → (FloatKind.f64.format.order (decR (Nf k / Df k + 1) (n - k)) x == some .eq) = chigh x n k))
  (hnear : Hid (∀ k, 1 ≤ k → k ≤ 17 → (decide (cmpN (Nf k % Df k * 2 ^ 1) (Df k) < 0) || ((cmpN (Nf k % Df k * 2 ^ 1) (Df k) == 0) && !(((Nf k / Df k : Nat) : Int) % 2 == 1))) = cnear x n k))
  (hend : Hid (clow x n 17 = false → chigh x n 17 = false → False))
  (rq : Hid (∀ k, 1 ≤ k → k ≤ 17 → (∀ j, 1 ≤ j → j < k → cnd x n j = none) → clow x n k = true → (chigh x n k = false ∨ cnear x n k = true) → R (strOf (dL (Nf k / Df k))) n))
  (rs : Hid (∀ k, 1 ≤ k → k ≤ 17 → (∀ j, 1 ≤ j → j < k → cnd x n j = none) → chigh x n k = true → (clow x n k = false ∨ cnear x n k = false) → (dL (Nf k / Df k + 1)).length ≤ k → R (strOf (dL (Nf k / Df k + 1))) n))
  (rl : Hid (∀ k, 1 ≤ k → k ≤ 17 → (∀ j, 1 ≤ j → j < k → cnd x n j = none) → chigh x n k = true → (clow x n k = false ∨ cnear x n k = false) → k < (dL (Nf k / Df k + 1)).length → R ((strOf (dL (Nf k / Df k + 1))).extract 0 k) (n + 1))) :
  Cp 42 #[.float .f64 x] w fun e w' => (∃ S m, e = .returned (.tuple #[.string S, .int .i64 m]) ∧ R S m) ∧ Below w.heap.size w w' := by
 have b3 : -400 ≤ n ∧ n ≤ 400 := ⟨b1, b2⟩
 obtain ⟨b4, b5⟩ := b3
 go_enter Tryz.func42, Tryz.ntmps42
 go_wp2_with fail
 refine (C0.out _ rfl).mono ?_
 rintro e w1 ⟨rfl, b1'⟩
 have B1 := Lib.hid b1'
 clear b1'
 go_wp2
 go_loopw [5] (fun v wr => ∃ k : Nat, v = .int .i64 k ∧ 1 ≤ k ∧ k ≤ 17 ∧ Hid (∀ j, 1 ≤ j → j < k → cnd x n j = none) ∧ Hid (Below w.heap.size w wr)) (fun v _ => 17 - (intOf v).toNat)
 case atStart => exact ⟨1, rfl, by omega, by omega, Lib.hid (fun j h1 h2 => by omega), B1⟩
 case round =>
  obtain ⟨k, rfl, hk1, hk2, HN, B1⟩ := hrel
  have HK1 := Lib.hid hk1
  have HK2 := Lib.hid hk2
  have e1 : (1 : Int) ≤ (k : Int) := by omega
  have e2 : (k : Int) ≤ 17 := by omega
  obtain ⟨q, hq⟩ : ∃ q, Nf k / Df k = q := ⟨_, rfl⟩
  obtain ⟨r, hr⟩ : ∃ r, Nf k % Df k = r := ⟨_, rfl⟩
  have CH := Lib.hid (fun W A a c C b d => CH.out W k A a c C b d hk2)
  have CU := Lib.hid (fun W A a c => CU.out W k A a c hk2)
  have CC := Lib.hid (fun W A a c C b d => CC.out W k A a c C b d hk2)
  have CP := Lib.hid (fun W A a c C b d => CP.out W k A a c C b d hk2)
  have CN := Lib.hid (fun W A a c => CN.out W k A a c hk2)
  have CM := Lib.hid (fun W A a c => CM.out W k A a c hk2)
  obtain ⟨q1, q2⟩ := hq0.out k hk1 hk2
  have Q1 := Lib.hid q1
  have CD1 := Lib.hid (fun W => CD.out W k (Nf k / Df k) hk2 (by omega))
  have CD2 := Lib.hid (fun W => CD.out W k (Nf k / Df k + 1) hk2 q2)
  have tl := hlow.out k hk1 hk2
  have th := hhigh.out k hk1 hk2
  have tn := hnear.out k hk1 hk2
  have rq := Lib.hid (rq.out k hk1 hk2 HN.out)
  have rs := Lib.hid (rs.out k hk1 hk2 HN.out)
  have rl := Lib.hid (rl.out k hk1 hk2 HN.out)
  unfold HRet at CH
  rw [hq] at CH CP CN CM CD1 CD2 Q1 tl th tn rq rs rl
  rw [hr] at CH CU CC tn
  obtain ⟨o, ho⟩ : ∃ o, cmpN (r * 2 ^ 1) (Df k) = o := ⟨_, rfl⟩
  rw [ho] at CC tn
  obtain ⟨f1, hf1⟩ : ∃ f, decR q (n - k) = f := ⟨_, rfl⟩
  obtain ⟨f2, hf2⟩ : ∃ f, decR (q + 1) (n - k) = f := ⟨_, rfl⟩
  rw [hf1] at CD1 tl
  rw [hf2] at CD2 th
  obtain ⟨lo, hlo⟩ : ∃ lo, clow x n k = lo := ⟨_, rfl⟩
  obtain ⟨hi, hhi⟩ : ∃ hi, chigh x n k = hi := ⟨_, rfl⟩
  obtain ⟨nr, hnr⟩ : ∃ nr, cnear x n k = nr := ⟨_, rfl⟩
  rw [hlo] at tl rq rs rl
  rw [hhi] at th rq rs rl
  rw [hnr] at tn rq rs rl
  have HLO := Lib.hid hlo
  have HHI := Lib.hid hhi
  have TN := Lib.hid tn
  obtain ⟨x0, hx1, hx2, hx3⟩ := word_low Q1.out
  have HX1 := Lib.hid hx1
  have ka : bits BinOp.and IntKind.u32 (x0 : Int) 1 = ((q % 2 : Nat) : Int) := by rw [and_one32 x0 hx2, hx3]
  have KA := Lib.hid ka
  have TL := Lib.hid tl
  have TH := Lib.hid th
  obtain ⟨s1, hs1⟩ : ∃ s, strOf (dL q) = s := ⟨_, rfl⟩
  obtain ⟨s2, hs2⟩ : ∃ s, strOf (dL (q + 1)) = s := ⟨_, rfl⟩
  rw [hs1] at CN CD1 rq
  rw [hs2] at CM CD2 rs rl
  obtain ⟨ls, hls⟩ : ∃ ls, (dL (q + 1)).length = ls := ⟨_, rfl⟩
  rw [hls] at rs rl
  have hsz : s2.size = ls := by rw [← hs2, strOf_size, hls]
  have HSZ := Lib.hid hsz
  clear hk1 hk2 hq hr q1 q2 ho hf1 hf2 hlo hhi hnr tn hx1 hx2 hx3 ka tl th hs1 hs2 hls hsz
  go_wp2_with fail
  refine (CS.out _ k HK2.out).mono ?_
  rintro e w2 ⟨A2, n2, c2, A3, n3, c3, rfl, g2, g3, b2'⟩
  have GN := Lib.hid g2
  have GD := Lib.hid g3
  have B2 := Lib.hid (below_le B1.out b2')
  clear g2 g3 b2'
  go_wp2_with fail
  refine (CH.out _ _ _ _ _ _ _ GN.out GD.out).mono ?_
  rintro e w3 ⟨A4, n4, c4, A5, n5, c5, rfl, g4, g5, b3'⟩
  have GQ := Lib.hid g4
  have GR := Lib.hid g5
  have GD := Lib.hid (GD.out.step b3')
  have B3 := Lib.hid (below_le B2.out b3')
  clear g4 g5 b3'
  go_wp2_with fail
  refine (CU.out _ _ _ _ GR.out).mono ?_
  rintro e w4 ⟨A6, n6, c6, rfl, g6, b4'⟩
  have GU := Lib.hid g6
  have GQ := Lib.hid (GQ.out.step b4')
  have GD := Lib.hid (GD.out.step b4')
  have B4 := Lib.hid (below_le B3.out b4')
  clear g6 b4'
  go_wp2_with fail
  refine (CC.out _ _ _ _ _ _ _ GU.out GD.out).mono ?_
  rintro e w' ⟨rfl, rfl⟩
  have G1 := Lib.hid (NV.lit w4 1 (by omega) (by omega))
  have GQ := Lib.hid (GQ.out.step (below_al w4 (.cells #[.int .u32 1] 42)))
  have B4 := Lib.hid (alloc_below (.cells #[.int .u32 1] 42) B4.out)
  go_wp2_with fail
  generalize w4.alloc (.cells #[.int .u32 1] 42) = w5 at *
  refine (CP.out _ _ _ _ _ _ _ GQ.out G1.out).mono ?_
  rintro e w6 ⟨A7, n7, c7, rfl, g7, b6'⟩
  have GS := Lib.hid g7
  have GQ := Lib.hid (GQ.out.step b6')
  have B6 := Lib.hid (below_le B4.out b6')
  clear g7 b6'
  go_wp2_with fail
  refine (CN.out _ _ _ _ GQ.out).mono ?_
  rintro e w7 ⟨rfl, b7'⟩
  have GS := Lib.hid (GS.out.step b7')
  have GQ := Lib.hid (GQ.out.step b7')
  have B7 := Lib.hid (below_le B6.out b7')
  clear b7'
  go_wp2_with fail
  refine (CD1.out _).mono ?_
  rintro e w8 ⟨rfl, b8'⟩
  have GS := Lib.hid (GS.out.step b8')
  have GQ := Lib.hid (GQ.out.step b8')
  have B8 := Lib.hid (below_le B7.out b8')
  clear b8'
  have tl := TL.out
  go_wp2_with fail
  clear tl
  refine (CM.out _ _ _ _ GS.out).mono ?_
  rintro e w9 ⟨rfl, b9'⟩
  have GS := Lib.hid (GS.out.step b9')
  have GQ := Lib.hid (GQ.out.step b9')
  have B9 := Lib.hid (below_le B8.out b9')
  clear b9'
  go_wp2_with fail
  refine (CD2.out _).mono ?_
  rintro e wA ⟨rfl, bA'⟩
  have GS := Lib.hid (GS.out.step bA')
  have GQ := Lib.hid (GQ.out.step bA')
  have BA := Lib.hid (below_le B9.out bA')
  clear bA'
  have hlq : 0 < n4 := by
   have h1 := GQ.out.len
   have h2 := HX1.out
   rcases Nat.eq_zero_or_pos n4 with h | h
   ·rw [List.eq_nil_of_length_eq_zero (h1.trans h)] at h2
    cases h2
   ·exact h
  obtain ⟨bq, oq, rfl, _, hcq⟩ := GQ.out.row.2 (by rw [GQ.out.len]; exact hlq)
  have c0 := hcq 0 _ HX1.out
  rw [Nat.add_zero] at c0
  clear hcq
  have hl4 : (0 : Int) < (n4 : Int) := by omega
  clear hlq
  have th := TH.out
  have ka := KA.out
  go_upto_region 11 with (fail)
  clear th ka c0
  obtain ⟨od, hod⟩ : ∃ od, ((q : Int) % 2 == 1) = od := ⟨_, rfl⟩
  rw [hod] at TN ⊢
  clear hod
  cases lo
  ·cases hi
   ·have hn : cnd x n k = none := cnd_none.2 ⟨HLO.out, HHI.out⟩
    have h17 : k ≠ 17 := by
     rintro rfl
     exact hend.out HLO.out HHI.out
    have HN' : Hid (∀ j, 1 ≤ j → j < k + 1 → cnd x n j = none) := Lib.hid (fun j h1 h2 => by
     rcases Nat.lt_or_ge j k with h | h
     ·exact HN.out j h1 h
     ·rw [show j = k by omega]
      exact hn)
    have hk2 := HK2.out
    clear hn
    go_wp2
    go_roundw
    case rel => exact ⟨k + 1, by go_num, by omega, by omega, HN', BA⟩
    case measure => simp [intOf]; omega
   ·have tt : True := trivial
    go_wp2_with fail
    refine (CM.out _ _ _ _ GS.out).mono ?_
    rintro e wB ⟨rfl, bB'⟩
    have BB := Lib.hid (below_le BA.out bB')
    clear bB'
    have hz' := HSZ.out
    by_cases hlk : k < ls
    ·have t9 : (k : Int) < (ls : Int) := by omega
     have t8 : (0 : Int) ≤ (k : Int) := by omega
     have t7 : (k : Int) ≤ (ls : Int) := by omega
     go_wp2
     go_ret2
     exact ⟨⟨_, _, rfl, rl.out (by simp) (.inl (by simp)) hlk⟩, BB.out⟩
    ·have t9 : decide (k < ls) = false := decide_eq_false hlk
     go_wp2
     go_ret2
     exact ⟨⟨_, _, rfl, rs.out (by simp) (.inl (by simp)) (by omega)⟩, BB.out⟩
  ·cases hi
   ·have tt : True := trivial
    go_wp2_with fail
    refine (CN.out _ _ _ _ GQ.out).mono ?_
    rintro e wB ⟨rfl, bB'⟩
    have BB := Lib.hid (below_le BA.out bB')
    clear bB'
    go_wp2
    go_ret2
    exact ⟨⟨_, _, rfl, rq.out (by simp) (.inl (by simp))⟩, BB.out⟩
   ·by_cases t1 : o < 0
    ·have hn : nr = true := by rw [← TN.out, decide_eq_true t1]; rfl
     go_wp2_with fail
     refine (CN.out _ _ _ _ GQ.out).mono ?_
     rintro e wB ⟨rfl, bB'⟩
     have BB := Lib.hid (below_le BA.out bB')
     clear bB'
     go_wp2
     go_ret2
     exact ⟨⟨_, _, rfl, rq.out (by simp) (.inr hn)⟩, BB.out⟩
    ·by_cases t2 : o = 0
     ·have t3 : (o == 0) = true := by rw [beq_iff_eq]; exact t2
      cases od
      ·have hn : nr = true := by rw [← TN.out, decide_eq_false t1, t3]; rfl
       clear t2
       go_wp2_with fail
       refine (CN.out _ _ _ _ GQ.out).mono ?_
       rintro e wB ⟨rfl, bB'⟩
       have BB := Lib.hid (below_le BA.out bB')
       clear bB'
       go_wp2
       go_ret2
       exact ⟨⟨_, _, rfl, rq.out (by simp) (.inr hn)⟩, BB.out⟩
      ·have hn : nr = false := by rw [← TN.out, decide_eq_false t1, t3]; rfl
       clear t2
       go_wp2_with fail
       refine (CM.out _ _ _ _ GS.out).mono ?_
       rintro e wB ⟨rfl, bB'⟩
       have BB := Lib.hid (below_le BA.out bB')
       clear bB'
       have hz' := HSZ.out
       by_cases hlk : k < ls
       ·have t9 : (k : Int) < (ls : Int) := by omega
        have t8 : (0 : Int) ≤ (k : Int) := by omega
        have t7 : (k : Int) ≤ (ls : Int) := by omega
        go_wp2
        go_ret2
        exact ⟨⟨_, _, rfl, rl.out (by simp) (.inr hn) hlk⟩, BB.out⟩
       ·have t9 : decide (k < ls) = false := decide_eq_false hlk
        go_wp2
        go_ret2
        exact ⟨⟨_, _, rfl, rs.out (by simp) (.inr hn) (by omega)⟩, BB.out⟩
     ·have t3 : (o == 0) = false := by rw [beq_eq_false_iff_ne]; exact t2
      have hn : nr = false := by rw [← TN.out, decide_eq_false t1, t3]; rfl
      clear t2
      go_wp2_with fail
      refine (CM.out _ _ _ _ GS.out).mono ?_
      rintro e wB ⟨rfl, bB'⟩
      have BB := Lib.hid (below_le BA.out bB')
      clear bB'
      have hz' := HSZ.out
      by_cases hlk : k < ls
      ·have t9 : (k : Int) < (ls : Int) := by omega
       have t8 : (0 : Int) ≤ (k : Int) := by omega
       have t7 : (k : Int) ≤ (ls : Int) := by omega
       go_wp2
       go_ret2
       exact ⟨⟨_, _, rfl, rl.out (by simp) (.inr hn) hlk⟩, BB.out⟩
      ·have t9 : decide (k < ls) = false := decide_eq_false hlk
       go_wp2
       go_ret2
       exact ⟨⟨_, _, rfl, rs.out (by simp) (.inr hn) (by omega)⟩, BB.out⟩

end Go.Proofs.YtfcpkdafkmohkaaGreatDoor
namespace Go.Proofs.YtfcpkdafkmohkaaGreatDoor
open Go.RowKit
theorem sc_quot {x m : Nat} {two : Int} (h : PartG x m two) (p : Int) :
  scN m two p / scD two p = vU x p / vV p ∧ (2 * (scN m two p % scD two p) < scD two p ↔ 2 * (vU x p % vV p) < vV p) ∧ (2 * (scN m two p % scD two p) = scD two p ↔ 2 * (vU x p % vV p) = vV p) :=
 quot_cross (scD_pos _ _) (vV_pos p) (sc_facts h p)
theorem cmpN_lt {a b : Nat} : cmpN a b < 0 ↔ a < b := by
 unfold cmpN
 split
 ·omega
 ·split <;> omega
theorem cmpN_eq {a b : Nat} : cmpN a b = 0 ↔ a = b := by
 unfold cmpN
 split
 ·omega
 ·split <;> omega
theorem cnd_low {x k : Nat} {n : Int} (h1 : clow x n k = true) (h2 : chigh x n k = false ∨ cnear x n k = true) : cnd x n k = some (cq x n k) := by
 unfold cnd
 rw [h1]
 rcases h2 with h | h <;> rw [h] <;> simp
theorem cnd_high {x k : Nat} {n : Int} (h1 : chigh x n k = true) (h2 : clow x n k = false ∨ cnear x n k = false) : cnd x n k = some (cq x n k + 1) := by
 unfold cnd
 rw [h1]
 rcases h2 with h | h <;> rw [h] <;> simp
theorem bln_succ (a : Nat) : bln (a + 1) ≤ bln a + 1 := by
 rcases Nat.eq_zero_or_pos a with h | h
 ·subst h
  decide
 ·have h1 := bln_shift (k := 1) h
  rw [← h1]
  exact bln_mono (by omega)
theorem yDigits_any {x : Nat} {w : World} (h0 : 0 < x) (hx : x < 9218868437227405312) : Cp 42 #[.float .f64 x] w (ShortQ x w) := by
 obtain ⟨m0, two0, hp0⟩ := part_ex h0 hx
 obtain ⟨n, hn, n1, n2⟩ := point_ex hp0
 obtain ⟨m, two, hG, hC⟩ := yscaled_fix x hx
 obtain ⟨gb1, gb2, gb3⟩ := hG.bd
 have hq : ∀ k : Nat, scN m two (k - n) / scD two (k - n) = cq x n k := fun k => (sc_quot hG _).1
 have hqb : ∀ k : Nat, 1 ≤ k → k ≤ 17 → 0 < cq x n k ∧ cq x n k + 1 ≤ 10 ^ k ∧ 10 ^ k ≤ 10 ^ 17 := fun k hk1 hk2 => by
  have h1 := cq_lo hn hk1
  have h2 := cq_hi (k := k) hn
  have h3 := ten_pos (k - 1)
  exact ⟨by omega, by omega, Nat.pow_le_pow_right (by omega) hk2⟩
 have bN : ∀ k : Nat, k ≤ 17 → bln (scN m two (k - n)) ≤ 5000 := fun k hk => scN_bln hG (by omega)
 have bD : ∀ k : Nat, k ≤ 17 → bln (scD two (k - n)) ≤ 5000 := fun k hk => scD_bln gb2 (by omega)
 have bR : ∀ k : Nat, k ≤ 17 → bln (scN m two (k - n) % scD two (k - n)) ≤ 5000 := fun k hk => Nat.le_trans (bln_mono (Nat.mod_le _ _)) (bN k hk)
 have bQ : ∀ k : Nat, k ≤ 17 → bln (scN m two (k - n) / scD two (k - n)) ≤ 5000 := fun k hk => Nat.le_trans (bln_mono (Nat.div_le_self _ _)) (bN k hk)
 have bQ1 : ∀ k : Nat, k ≤ 17 → bln (scN m two (k - n) / scD two (k - n) + 1) ≤ 6000 := fun k hk => by
  have h1 := bln_succ (scN m two (k - n) / scD two (k - n))
  have h2 := bQ k hk
  omega
 refine (yDigits_walk (n := n) (Nf := fun k => scN m two (k - n)) (Df := fun k => scD two (k - n)) (R := fun S N => ∃ D, S = strOf D ∧ SQ x D N) (by omega) (by omega)
  (Lib.hid fun W _ => ypoint_is h0 hx hn n1 n2) (Lib.hid fun W k hk => hC _ W (by omega) (by omega))
  (Lib.hid fun W k A a c C b d hk h g => rnhalved h g (by have := bN k hk; omega) (by have := bD k hk; omega) (scD_pos _ _))
  (Lib.hid fun W k A a c hk h => rnup h 1 (by have := bR k hk; omega) (by omega))
  (Lib.hid fun W k A a c C b d hk h g => rncmp h g (by have := bR k hk; have := bln_mul (scN m two (k - n) % scD two (k - n)) (2 ^ 1); have := bln_pow2 1; omega) (by have := bD k hk; omega))
  (Lib.hid fun W k A a c C b d hk h g => rnplus h g (by have := bQ k hk; omega) (by decide))
  (Lib.hid fun W k A a c hk h => ynumber_any h (by have := bQ k hk; omega))
  (Lib.hid fun W k A a c hk h => ynumber_any h (by have := bQ1 k hk; omega))
  (Lib.hid fun W k v hk hv => ?_) (Lib.hid ?_) (Lib.hid ?_) (Lib.hid ?_) (Lib.hid ?_) (Lib.hid ?_) (Lib.hid ?_) (Lib.hid ?_) (Lib.hid ?_)).mono ?_
 ·have h1 := ydecimal_any (dL v) (n - k) W (dL_dig v) (by have := dL_le hv (by omega); omega) (by omega)
  rw [dL_num] at h1
  exact h1
 ·intro k hk1 hk2
  obtain ⟨h1, h2, h3⟩ := hqb k hk1 hk2
  simp only [hq]
  omega
 ·intro k hk1 hk2
  simp only [hq]
  rw [ord_eq_pos (decR_le_inf _ _) (by omega)]
  rfl
 ·intro k hk1 hk2
  simp only [hq]
  rw [ord_eq_pos (decR_le_inf _ _) (by omega)]
  rfl
 ·intro k hk1 hk2
  obtain ⟨s1, s2, s3⟩ := sc_quot hG ((k : Int) - n)
  unfold cnear
  simp only [hq]
  rw [Bool.eq_iff_iff, Bool.or_eq_true, Bool.or_eq_true, Bool.and_eq_true, Bool.and_eq_true, decide_eq_true_iff, decide_eq_true_iff, decide_eq_true_iff, decide_eq_true_iff, beq_iff_eq, cmpN_lt, cmpN_eq, ← s2, ← s3, Bool.not_eq_true', beq_eq_false_iff_ne]
  generalize cq x n k = q
  generalize scN m two (↑k - n) % scD two (↑k - n) = r
  generalize scD two (↑k - n) = d
  omega
 ·intro h1 h2
  exact cnd_ends hn h0 hx (cnd_none.2 ⟨h1, h2⟩)
 ·intro k hk1 hk2 hmin h1 h2
  simp only [hq]
  have hc := cnd_low h1 h2
  have hlt := cq_hi (k := k) hn
  rcases cnd_last hn hk1 hmin hc with ⟨g1, g2, g3⟩ | ⟨g1, g2⟩
  ·have e := dL_last g1
   obtain ⟨j, rfl⟩ : ∃ j, k = j + 1 := ⟨k - 1, by omega⟩
   have hl := dL_len (k := j) g2 g3
   exact ⟨_, rfl, n, j + 1, _, hn, hk1, hk2, hmin, hc, e.symm, by rw [hl]; omega⟩
  ·subst g1
   rw [g2] at hlt
   omega
 ·intro k hk1 hk2 hmin h1 h2 hle
  simp only [hq] at hle ⊢
  have hc := cnd_high h1 h2
  rcases cnd_last hn hk1 hmin hc with ⟨g1, g2, g3⟩ | ⟨g1, g2⟩
  ·have e := dL_last g1
   obtain ⟨j, rfl⟩ : ∃ j, k = j + 1 := ⟨k - 1, by omega⟩
   have hl := dL_len (k := j) g2 g3
   exact ⟨_, rfl, n, j + 1, _, hn, hk1, hk2, hmin, hc, e.symm, by rw [hl]; omega⟩
  ·subst g1
   rw [g2, show dL 10 = [49, 48] by rw [dL_big (by omega), dL_small (by omega)]; rfl] at hle
   simp at hle
 ·intro k hk1 hk2 hmin h1 h2 hle
  simp only [hq] at hle ⊢
  have hc := cnd_high h1 h2
  rcases cnd_last hn hk1 hmin hc with ⟨g1, g2, g3⟩ | ⟨g1, g2⟩
  ·exfalso
   obtain ⟨j, rfl⟩ : ∃ j, k = j + 1 := ⟨k - 1, by omega⟩
   have hl := dL_len (k := j) g2 g3
   omega
  ·subst g1
   have e10 : dL 10 = [49, 48] := by rw [dL_big (by omega), dL_small (by omega)]; rfl
   refine ⟨[49], ?_, n, 1, _, hn, hk1, hk2, hmin, hc, ?_, ?_⟩
   ·rw [g2, e10, ext_take, bl_strOf (by simp)]
    rfl
   ·rw [g2, e10]
    rfl
   ·rw [g2, e10]
    simp
    omega
 ·rintro e w' ⟨⟨S, N, rfl, D, rfl, hq⟩, hb⟩
  exact ⟨D, N, rfl, hq, hb⟩
theorem yDigits_is {x : Nat} {D : List Nat} {N : Int} {w : World} (h0 : 0 < x) (hx : x < 9218868437227405312) (h : SQ x D N) :
  Ct 42 #[.float .f64 x] (.tuple #[.string (strOf D), .int .i64 N]) w := by
 refine (yDigits_any h0 hx).mono ?_
 rintro e w' ⟨L, p, rfl, hq, hb⟩
 obtain ⟨rfl, rfl⟩ := h.one hq
 exact ⟨rfl, hb⟩

end Go.Proofs.YtfcpkdafkmohkaaGreatDoor
namespace Go.Proofs.YtfcpkdafkmohkaaGreatDoor
open Go.RowKit
def rhu (u v : Nat) : Nat := u / v + (if v ≤ 2 * (u % v) then 1 else 0)
def rhN (x : Nat) (p : Int) : Nat := rhu (vU x p) (vV p)
theorem rhu_cross {a b c d : Nat} (hb : 0 < b) (hd : 0 < d) (h : a * d = c * b) : rhu a b = rhu c d := by
 obtain ⟨q1, q2, q3⟩ := quot_cross hb hd h
 unfold rhu
 rw [q1]
 congr 1
 by_cases k : b ≤ 2 * (a % b)
 ·rw [if_pos k, if_pos (by omega)]
 ·rw [if_neg k, if_neg (by omega)]
theorem nshr1 {w : World} {A : Option Addr} {n c a : Nat} (hA : NV w A n c a) (ha : bln a ≤ 30000) :
  Cp 125 #[.slice A n c, .int .i64 1] w fun e w' => ∃ A2 n2 c2 b, e = .returned (.tuple #[.slice A2 n2 c2, .bool b]) ∧ NV w' A2 n2 c2 (a / 2) ∧ Below w.heap.size w w' := by
 have h1 := small_len ha
 rw [hA.len] at h1
 have key : Cp 125 #[.slice A n c, .int .i64 ((1 : Nat) : Int)] w (ShrQ (val (wds a)) 1 w) := by
  by_cases hf : btl (nrm (wds a)) ≤ 1
  ·exact pshr_far A n c 1 (wds a) w hA.len hA.cap (by omega) hA.row (by omega) hf
  ·exact pshr_mid A n c 1 0 1 (wds a) w hA.len hA.cap (by omega) hA.row (by omega) (by omega) (by omega) (by omega)
 rw [wds_val] at key
 refine key.mono ?_
 rintro e w' ⟨A2, n2, c2, rfl, g1, g2, g3, g4⟩
 rw [Nat.pow_one] at g1 g3
 exact ⟨A2, n2, c2, _, rfl, ⟨g1.symm, g2, g3⟩, g4⟩
theorem ntext {A : Option Addr} {n c v : Nat} {w : World} (hA : NV w A n c v) (hv : bln v ≤ 20000) : Ct 111 #[.slice A n c, .int .i64 10] (.tuple #[.string (strOf (dL v)), .int .i64 0]) w := by
 have h1 := small_len (v := v) (by omega)
 have C := text_any A n c 10 (wds v) w hA.len hA.cap (by have := hA.len; omega) hA.row
 rw [wds_val] at C
 refine C.mono ?_
 rintro e w' ⟨t, k, rfl, ht, hb⟩
 have hbad : ¬ badR 10 := by unfold badR; omega
 rcases ht with ⟨h, _⟩ | ⟨_, h, _⟩ | ⟨_, _, h, rfl⟩
 ·exact absurd h hbad
 ·rw [lng_bln (by omega)] at h
  cases h
 ·rw [text_str h]
  exact ⟨rfl, hb⟩
set_option maxRecDepth 100000 in
set_option maxHeartbeats 1000000 in
theorem tnear_walk {A : Option Addr} {n c m h : Nat} {two two1 ten : Int} {S : ByteArray} {w : World} (hA : NV w A n c m) (k1 : IntKind.i64.wrap (two + 1) = two1)
  (C1 : Hid (∀ W, NV W A n c m → Cp 123 #[.slice A n c, .int .i64 two1, .int .i64 ten] W fun e w' => ∃ A3 n3 c3 b, e = .returned (.tuple #[.slice A3 n3 c3, .bool b]) ∧ NV w' A3 n3 c3 h ∧ Below W.heap.size W w'))
  (C3 : Hid (∀ W A n c C m d, NV W A n c h → NV W C m d 1 → Cp 124 #[.slice A n c, .slice C m d] W (NOk (h + 1) W)))
  (C4 : Hid (∀ W A n c, NV W A n c (h + 1) → Cp 125 #[.slice A n c, .int .i64 1] W fun e w' => ∃ A2 n2 c2 b, e = .returned (.tuple #[.slice A2 n2 c2, .bool b]) ∧ NV w' A2 n2 c2 ((h + 1) / 2) ∧ Below W.heap.size W w'))
  (C5 : Hid (∀ W A n c, NV W A n c ((h + 1) / 2) → Ct 111 #[.slice A n c, .int .i64 10] (.tuple #[.string S, .int .i64 0]) W)) :
  Ct 56 #[.slice A n c, .int .i64 two, .int .i64 ten] (.string S) w := by
 have C2 := Lib.hid (fun W => nof 1 (by omega) W)
 have HA := Lib.hid hA
 clear hA
 go_enter Tryz.func56, Tryz.ntmps56
 go_wp2_with fail
 refine (C1.out _ HA.out).mono ?_
 rintro e w1 ⟨A1, n1, c1, b, rfl, g1, b1⟩
 have G1 := Lib.hid g1
 have B1 := Lib.hid b1
 clear g1 b1
 go_wp2_with fail
 refine (C2.out _).mono ?_
 rintro e w2 ⟨A2, n2, c2, rfl, g2, b2⟩
 have G2 := Lib.hid g2
 have G1 := Lib.hid (G1.out.step b2)
 have B2 := Lib.hid (below_le B1.out b2)
 clear g2 b2
 go_wp2_with fail
 refine (C3.out _ _ _ _ _ _ _ G1.out G2.out).mono ?_
 rintro e w3 ⟨A3, n3, c3, rfl, g3, b3⟩
 have G3 := Lib.hid g3
 have B3 := Lib.hid (below_le B2.out b3)
 clear g3 b3
 go_wp2_with fail
 refine (C4.out _ _ _ _ G3.out).mono ?_
 rintro e w4 ⟨A4, n4, c4, b4', rfl, g4, b4⟩
 have G4 := Lib.hid g4
 have B4 := Lib.hid (below_le B3.out b4)
 clear g4 b4
 go_wp2_with fail
 refine (C5.out _ _ _ _ G4.out).mono ?_
 rintro e w5 ⟨rfl, b5⟩
 have B5 := Lib.hid (below_le B4.out b5)
 clear b5
 go_wp2
 go_ret
 exact ⟨rfl, B5.out⟩
theorem near_val {x m : Nat} {two : Int} (h : PartG x m two) (ten : Int) : (scA m (two + 1) ten / scB (two + 1) ten + 1) / 2 = rhN x ten := by
 have key : scA m (two + 1) ten * vV ten = 2 * vU x ten * scB (two + 1) ten := by
  rcases h with ⟨rfl, rfl, rfl⟩ | ⟨_, h⟩
  ·unfold scA vU
   rw [fmag_zero]
   simp
  ·obtain ⟨K, hK, hb⟩ := big_K
   obtain ⟨t, ht, hm⟩ := h.mag hK
   have hx : m * 2 ^ (t + 1) = 2 * fmag x * 2 ^ 0 := by
    rw [hm, Nat.pow_succ, Nat.pow_zero]
    grind
   have hc := sc_cross (M := K) (two := two + 1) (ten := ten) (x := t + 1) (y := 0) (by omega) hx
   unfold vV vU
   rw [hb, hc]
   grind
 have e := (quot_cross (scB_pos _ _) (vV_pos ten) key).1
 rw [e, half_up (vV_pos ten)]
 rfl
theorem scA_bln {x m : Nat} {two ten : Int} (h : PartG x m two) (h1 : -1000 ≤ ten) (h2 : ten ≤ 1000) : bln (scA m (two + 1) ten / scB (two + 1) ten) ≤ 8000 := by
 obtain ⟨b1, b2, b3⟩ := h.bd
 refine Nat.le_trans (bln_mono (Nat.div_le_self _ _)) ?_
 unfold scA
 have e1 := bln_mul (m * 5 ^ ten.toNat) (2 ^ (two + 1 + ten).toNat)
 have e2 := bln_mul m (5 ^ ten.toNat)
 have e3 := bln_five ten.toNat
 have e4 := bln_pow2 (two + 1 + ten).toNat
 omega
theorem bln_half {a : Nat} : bln (a / 2) ≤ bln a := bln_mono (Nat.div_le_self _ _)
theorem tnear_any {A : Option Addr} {n c x m : Nat} {two ten : Int} {w : World} (hA : NV w A n c m) (hp : PartG x m two) (h1 : -1000 ≤ ten) (h2 : ten ≤ 1000) :
  Ct 56 #[.slice A n c, .int .i64 two, .int .i64 ten] (.string (strOf (dL (rhN x ten)))) w := by
 obtain ⟨b1, b2, b3⟩ := hp.bd
 have hv := near_val hp ten
 have hb := scA_bln hp h1 h2
 have hC : Hid (∀ W, NV W A n c m → Cp 123 #[.slice A n c, .int .i64 (two + 1), .int .i64 ten] W fun e w' => ∃ A3 n3 c3 b, e = .returned (.tuple #[.slice A3 n3 c3, .bool b]) ∧ NV w' A3 n3 c3 (scA m (two + 1) ten / scB (two + 1) ten) ∧ Below W.heap.size W w') := Lib.hid (fun W g => (tscaled_any (two + 1) ten g (by omega) h1 h2 (by omega) (by omega)).mono (by
  rintro e w' ⟨A3, n3, c3, rfl, hv, hb⟩
  exact ⟨A3, n3, c3, _, rfl, hv, hb⟩))
 obtain ⟨h, hh⟩ : ∃ h, scA m (two + 1) ten / scB (two + 1) ten = h := ⟨_, rfl⟩
 rw [hh] at hv hb hC
 have hs := bln_succ h
 rw [← hv]
 exact tnear_walk hA (IntWalk.i64_in _ (by omega)) hC (Lib.hid fun W A n c C m d g1 g2 => nadd g1 g2 (by omega)) (Lib.hid fun W A n c g => nshr1 g (by omega)) (Lib.hid fun W A n c g => ntext g (by have := bln_half (a := h + 1); omega))
def LdQ (x count : Nat) (D : List Nat) (E : Int) : Prop :=
 (x = 0 ∧ D = List.replicate count 48 ∧ E = 0) ∨ (0 < x ∧ ∃ n : Int, PointAt (fmag x) big n ∧ -345 ≤ n ∧ n ≤ 335 ∧ D = (dL (rhN x (count - n))).take count ∧ E = n - 1 + (dL (rhN x (count - n))).length - count)
theorem ldq_ex {x count : Nat} (hx : x < 9218868437227405312) : ∃ D E, LdQ x count D E := by
 rcases Nat.eq_zero_or_pos x with h | h
 ·exact ⟨_, _, .inl ⟨h, rfl, rfl⟩⟩
 ·obtain ⟨m, two, hp⟩ := part_ex h hx
  obtain ⟨n, h1, h2, h3⟩ := point_ex hp
  exact ⟨_, _, .inr ⟨h, n, h1, h2, h3, rfl, rfl⟩⟩
theorem LdQ.one {x count : Nat} {D D' : List Nat} {E E' : Int} (h : LdQ x count D E) (g : LdQ x count D' E') : D = D' ∧ E = E' := by
 rcases h with ⟨h1, h2, h3⟩ | ⟨h0, n, h1, _, _, h2, h3⟩ <;> rcases g with ⟨g1, g2, g3⟩ | ⟨g0, k, g1, _, _, g2, g3⟩
 ·exact ⟨by rw [h2, g2], by rw [h3, g3]⟩
 ·omega
 ·omega
 ·have := point_one h1 g1
  subst this
  exact ⟨by rw [h2, g2], by rw [h3, g3]⟩
theorem rhN_at {x : Nat} {n : Int} (hn : PointAt (fmag x) big n) {k : Nat} (hk : 1 ≤ k) : 10 ^ (k - 1) ≤ rhN x (k - n) ∧ rhN x (k - n) ≤ 10 ^ k := by
 have h1 := cq_lo hn hk
 have h2 := cq_hi (k := k) hn
 unfold rhN rhu
 unfold cq at h1 h2
 split <;> omega
theorem LdQ.len {x count : Nat} {D : List Nat} {E : Int} (h : LdQ x count D E) (hc : 1 ≤ count) : D.length = count ∧ (∀ c ∈ D, dg10 c = true) ∧ -346 ≤ E ∧ E ≤ 335 := by
 rcases h with ⟨_, rfl, rfl⟩ | ⟨h0, n, h1, h2, h3, rfl, rfl⟩
 ·refine ⟨List.length_replicate, ?_, by omega, by omega⟩
  intro c hc
  rw [List.mem_replicate] at hc
  rw [hc.2]
  decide
 ·obtain ⟨a, b⟩ := rhN_at h1 hc
  have hl : count ≤ (dL (rhN x (count - n))).length ∧ (dL (rhN x (count - n))).length ≤ count + 1 := by
   rcases Nat.lt_or_ge (rhN x (count - n)) (10 ^ count) with h | h
   ·rw [dL_len (k := count - 1) a (by rw [show count - 1 + 1 = count by omega]; exact h)]
    omega
   ·rw [dL_len (k := count) h (by rw [Nat.pow_succ]; have := ten_pos count; omega)]
    omega
  refine ⟨by rw [List.length_take]; omega, fun c hc => dL_dig _ c (List.mem_of_mem_take hc), by omega, by omega⟩
set_option maxRecDepth 100000 in
set_option maxHeartbeats 1000000 in
theorem tlead_zero {x count : Nat} {S : ByteArray} {w : World}
  (C1 : Hid (∀ W, W = w → Cp 54 #[.float .f64 x] W fun e w' => ∃ A c, e = .returned (.tuple #[.slice A 0 c, .int .i64 0, .int .i64 0]) ∧ Below W.heap.size W w'))
  (C2 : Hid (∀ W, Ct 106 #[.string ⟨#[48]⟩, .int .i64 count] (.string S) W)) :
  Ct 60 #[.float .f64 x, .int .i64 count] (.tuple #[.string S, .int .i64 0]) w := by
 go_enter Tryz.func60, Tryz.ntmps60
 go_wp2_with fail
 refine (C1.out _ rfl).mono ?_
 rintro e w1 ⟨A1, c1, rfl, b1⟩
 have B1 := Lib.hid b1
 clear b1
 go_wp2_with fail
 refine (C2.out _).mono ?_
 rintro e w2 ⟨rfl, b2⟩
 have B2 := Lib.hid (below_le B1.out b2)
 clear b2
 go_wp2
 go_ret2
 exact ⟨rfl, B2.out⟩
set_option maxRecDepth 100000 in
set_option maxHeartbeats 1000000 in
theorem tlead_pos {x count L : Nat} {n p : Int} {S T : ByteArray} {w : World} (b1 : -400 ≤ n) (b2 : n ≤ 400) (hc0 : 1 ≤ count) (hc : count ≤ 100) (hp : (count : Int) - n = p) (hL : S.size = L) (hcL : count ≤ L) (hL2 : L ≤ 1000) (hT : S.extract 0 count = T)
  (C1 : Hid (∀ W, W = w → Cp 54 #[.float .f64 x] W fun e w' => ∃ A, ∃ k : Nat, ∃ c m two, e = .returned (.tuple #[.slice A k c, .int .i64 two, .int .i64 0]) ∧ 0 < k ∧ NV w' A k c m ∧ PartIs x m two ∧ Below W.heap.size W w'))
  (C2 : Hid (∀ W A (k : Nat) c m two, NV W A k c m → PartIs x m two → Ct 94 #[.slice A k c, .int .i64 two] (.int .i64 n) W))
  (C3 : Hid (∀ W A (k : Nat) c m two, NV W A k c m → PartIs x m two → Ct 56 #[.slice A k c, .int .i64 two, .int .i64 p] (.string S) W)) :
  Ct 60 #[.float .f64 x, .int .i64 count] (.tuple #[.string T, .int .i64 (n - 1 + L - count)]) w := by
 have e1 : (1 : Int) ≤ count := by omega
 have e2 : (count : Int) ≤ 100 := by omega
 have e3 : (count : Int) ≤ L := by omega
 have e4 : (L : Int) ≤ 1000 := by omega
 have HL := Lib.hid hL
 have HT := Lib.hid hT
 clear hL hT hcL hL2 hc hc0
 go_enter Tryz.func60, Tryz.ntmps60
 go_wp2_with fail
 refine (C1.out _ rfl).mono ?_
 rintro e w1 ⟨A1, k, c1, m, two, rfl, hk, g1, hp', b1'⟩
 have G1 := Lib.hid g1
 have HP := Lib.hid hp'
 have B1 := Lib.hid b1'
 have k0 : ¬ ((k : Int) = 0) := by omega
 have k1 : ((k : Int) == 0) = false := by rw [beq_eq_false_iff_ne]; exact k0
 clear g1 hp' b1' hk
 go_wp2_with fail
 refine (C2.out _ _ _ _ _ _ G1.out HP.out).mono ?_
 rintro e w2 ⟨rfl, b2'⟩
 have G1 := Lib.hid (G1.out.step b2')
 have B2 := Lib.hid (below_le B1.out b2')
 clear b2'
 go_wp2_with fail
 refine (C3.out _ _ _ _ _ _ G1.out HP.out).mono ?_
 rintro e w3 ⟨rfl, b3'⟩
 have B3 := Lib.hid (below_le B2.out b3')
 clear b3'
 have hL := HL.out
 go_wp2
 go_ret2
 exact ⟨by rw [HT.out]; rfl, B3.out⟩

end Go.Proofs.YtfcpkdafkmohkaaGreatDoor
namespace Go.Proofs.YtfcpkdafkmohkaaGreatDoor
open Go.RowKit
set_option maxRecDepth 100000 in
set_option maxHeartbeats 1000000 in
theorem yrounded_low {x N D : Nat} {p o : Int} {S : ByteArray} {w : World} (ho : o < 0)
  (CS : Hid (∀ W, Cp 48 #[.float .f64 x, .int .i64 p] W fun e w' => ∃ A a c C b d, e = .returned (.tuple #[.slice A a c, .slice C b d]) ∧ NV w' A a c N ∧ NV w' C b d D ∧ Below W.heap.size W w'))
  (CH : Hid (∀ W A a c C b d, NV W A a c N → NV W C b d D → Cp 49 #[.slice A a c, .slice C b d] W (HRet N D W)))
  (CU : Hid (∀ W A a c, NV W A a c (N % D) → Cp 102 #[.slice A a c, .int .i64 1] W (NRet (N % D * 2 ^ 1) W)))
  (CC : Hid (∀ W A a c C b d, NV W A a c (N % D * 2 ^ 1) → NV W C b d D → Cq 101 #[.slice A a c, .slice C b d] (.int .i64 o) W))
  (CN : Hid (∀ W A a c, NV W A a c (N / D) → Ct 105 #[.slice A a c] (.string S) W)) :
  Ct 57 #[.float .f64 x, .int .i64 p] (.string S) w := by
 obtain ⟨q, hq⟩ : ∃ q, N / D = q := ⟨_, rfl⟩
 obtain ⟨r, hr⟩ : ∃ r, N % D = r := ⟨_, rfl⟩
 unfold HRet at CH
 rw [hq] at CH CN
 rw [hr] at CH CU CC
 clear hq hr
 go_enter Tryz.func57, Tryz.ntmps57
 go_wp2_with fail
 refine (CS.out _).mono ?_
 rintro e w2 ⟨A2, n2, c2, A3, n3, c3, rfl, g2, g3, b2'⟩
 have GN := Lib.hid g2
 have GD := Lib.hid g3
 have B2 := Lib.hid b2'
 clear g2 g3 b2'
 go_wp2_with fail
 refine (CH.out _ _ _ _ _ _ _ GN.out GD.out).mono ?_
 rintro e w3 ⟨A4, n4, c4, A5, n5, c5, rfl, g4, g5, b3'⟩
 have GQ := Lib.hid g4
 have GR := Lib.hid g5
 have GD := Lib.hid (GD.out.step b3')
 have B3 := Lib.hid (below_le B2.out b3')
 clear g4 g5 b3'
 go_wp2_with fail
 refine (CU.out _ _ _ _ GR.out).mono ?_
 rintro e w4 ⟨A6, n6, c6, rfl, g6, b4'⟩
 have GU := Lib.hid g6
 have GQ := Lib.hid (GQ.out.step b4')
 have GD := Lib.hid (GD.out.step b4')
 have B4 := Lib.hid (below_le B3.out b4')
 clear g6 b4'
 go_wp2_with fail
 refine (CC.out _ _ _ _ _ _ _ GU.out GD.out).mono ?_
 rintro e w' ⟨rfl, rfl⟩
 go_wp2_with fail
 refine (CN.out _ _ _ _ GQ.out).mono ?_
 rintro e w7 ⟨rfl, b7'⟩
 have B7 := Lib.hid (below_le B4.out b7')
 clear b7'
 go_wp2
 go_ret
 exact ⟨rfl, B7.out⟩
set_option maxRecDepth 100000 in
set_option maxHeartbeats 1000000 in
theorem yrounded_high {x N D : Nat} {p o : Int} {S : ByteArray} {w : World} (ho : 0 ≤ o)
  (CS : Hid (∀ W, Cp 48 #[.float .f64 x, .int .i64 p] W fun e w' => ∃ A a c C b d, e = .returned (.tuple #[.slice A a c, .slice C b d]) ∧ NV w' A a c N ∧ NV w' C b d D ∧ Below W.heap.size W w'))
  (CH : Hid (∀ W A a c C b d, NV W A a c N → NV W C b d D → Cp 49 #[.slice A a c, .slice C b d] W (HRet N D W)))
  (CU : Hid (∀ W A a c, NV W A a c (N % D) → Cp 102 #[.slice A a c, .int .i64 1] W (NRet (N % D * 2 ^ 1) W)))
  (CC : Hid (∀ W A a c C b d, NV W A a c (N % D * 2 ^ 1) → NV W C b d D → Cq 101 #[.slice A a c, .slice C b d] (.int .i64 o) W))
  (CP : Hid (∀ W A a c C b d, NV W A a c (N / D) → NV W C b d 1 → Cp 103 #[.slice A a c, .slice C b d] W (NRet (N / D + 1) W)))
  (CN : Hid (∀ W A a c, NV W A a c (N / D + 1) → Ct 105 #[.slice A a c] (.string S) W)) :
  Ct 57 #[.float .f64 x, .int .i64 p] (.string S) w := by
 obtain ⟨q, hq⟩ : ∃ q, N / D = q := ⟨_, rfl⟩
 obtain ⟨r, hr⟩ : ∃ r, N % D = r := ⟨_, rfl⟩
 unfold HRet at CH
 rw [hq] at CH CP CN
 rw [hr] at CH CU CC
 clear hq hr
 have ho' : ¬ o < 0 := by omega
 go_enter Tryz.func57, Tryz.ntmps57
 go_wp2_with fail
 refine (CS.out _).mono ?_
 rintro e w2 ⟨A2, n2, c2, A3, n3, c3, rfl, g2, g3, b2'⟩
 have GN := Lib.hid g2
 have GD := Lib.hid g3
 have B2 := Lib.hid b2'
 clear g2 g3 b2'
 go_wp2_with fail
 refine (CH.out _ _ _ _ _ _ _ GN.out GD.out).mono ?_
 rintro e w3 ⟨A4, n4, c4, A5, n5, c5, rfl, g4, g5, b3'⟩
 have GQ := Lib.hid g4
 have GR := Lib.hid g5
 have GD := Lib.hid (GD.out.step b3')
 have B3 := Lib.hid (below_le B2.out b3')
 clear g4 g5 b3'
 go_wp2_with fail
 refine (CU.out _ _ _ _ GR.out).mono ?_
 rintro e w4 ⟨A6, n6, c6, rfl, g6, b4'⟩
 have GU := Lib.hid g6
 have GQ := Lib.hid (GQ.out.step b4')
 have GD := Lib.hid (GD.out.step b4')
 have B4 := Lib.hid (below_le B3.out b4')
 clear g6 b4'
 go_wp2_with fail
 refine (CC.out _ _ _ _ _ _ _ GU.out GD.out).mono ?_
 rintro e w' ⟨rfl, rfl⟩
 have G1 := Lib.hid (NV.lit w4 1 (by omega) (by omega))
 have GQ := Lib.hid (GQ.out.step (below_al w4 (.cells #[.int .u32 1] 42)))
 have B4 := Lib.hid (alloc_below (.cells #[.int .u32 1] 42) B4.out)
 go_wp2_with fail
 generalize w4.alloc (.cells #[.int .u32 1] 42) = w5 at *
 refine (CP.out _ _ _ _ _ _ _ GQ.out G1.out).mono ?_
 rintro e w6 ⟨A7, n7, c7, rfl, g7, b6'⟩
 have GS := Lib.hid g7
 have B6 := Lib.hid (below_le B4.out b6')
 clear g7 b6'
 go_wp2_with fail
 refine (CN.out _ _ _ _ GS.out).mono ?_
 rintro e w7 ⟨rfl, b7'⟩
 have B7 := Lib.hid (below_le B6.out b7')
 clear b7'
 go_wp2
 go_ret
 exact ⟨rfl, B7.out⟩
theorem yrounded_of {x x' m : Nat} {two p : Int} {w : World} (hG : PartG x' m two) (hC : ∀ W, Cp 48 #[.float .f64 x, .int .i64 p] W (ScQ m two p W)) (h1 : -700 ≤ p) (h2 : p ≤ 700) :
  Ct 57 #[.float .f64 x, .int .i64 p] (.string (strOf (dL (rhN x' p)))) w := by
 obtain ⟨gb1, gb2, gb3⟩ := hG.bd
 unfold ScQ at hC
 have hr : rhu (scN m two p) (scD two p) = rhN x' p := rhu_cross (scD_pos _ _) (vV_pos _) (sc_facts hG p)
 have bN := scN_bln hG (p := p) (by omega)
 have bD := scD_bln (two := two) (p := p) gb2 (by omega)
 have hD := scD_pos two p
 obtain ⟨N, hN⟩ : ∃ N, scN m two p = N := ⟨_, rfl⟩
 obtain ⟨D, hD'⟩ : ∃ D, scD two p = D := ⟨_, rfl⟩
 rw [hN, hD'] at hr
 rw [hN] at bN
 rw [hD'] at bD hD
 rw [hN, hD'] at hC
 have bR : bln (N % D) ≤ 5000 := Nat.le_trans (bln_mono (Nat.mod_le _ _)) bN
 have bQ : bln (N / D) ≤ 5000 := Nat.le_trans (bln_mono (Nat.div_le_self _ _)) bN
 have bS := bln_succ (N / D)
 have bm := bln_mul (N % D) (2 ^ 1)
 have b2 := bln_pow2 1
 rw [← hr]
 unfold rhu
 by_cases hc : D ≤ 2 * (N % D)
 ·rw [if_pos hc]
  refine yrounded_high (o := cmpN (N % D * 2 ^ 1) D) ?_ (Lib.hid hC) (Lib.hid fun W A a c C b d h g => rnhalved h g (by omega) (by omega) hD) (Lib.hid fun W A a c h => rnup h 1 (by omega) (by omega))
   (Lib.hid fun W A a c C b d h g => rncmp h g (by omega) (by omega)) (Lib.hid fun W A a c C b d h g => rnplus h g (by omega) (by decide)) (Lib.hid fun W A a c h => ynumber_any h (by omega))
  unfold cmpN
  rw [if_neg (by omega)]
  split <;> omega
 ·rw [if_neg hc, Nat.add_zero]
  refine yrounded_low (o := cmpN (N % D * 2 ^ 1) D) (cmpN_lt.2 (by omega)) (Lib.hid hC) (Lib.hid fun W A a c C b d h g => rnhalved h g (by omega) (by omega) hD) (Lib.hid fun W A a c h => rnup h 1 (by omega) (by omega))
   (Lib.hid fun W A a c C b d h g => rncmp h g (by omega) (by omega)) (Lib.hid fun W A a c h => ynumber_any h (by omega))
theorem yrounded_any {x : Nat} {p : Int} {w : World} (hx : x < 9218868437227405312) (h1 : -700 ≤ p) (h2 : p ≤ 700) :
  Ct 57 #[.float .f64 x, .int .i64 p] (.string (strOf (dL (rhN x p)))) w := by
 obtain ⟨m, two, hG, hC⟩ := yscaled_fix x hx
 exact yrounded_of hG (fun W => hC p W h1 h2) h1 h2
def AmtOf (x y : Nat) : Prop := y = rung x ∨ (rung x = 0 ∧ y = x)
set_option maxRecDepth 100000 in
set_option maxHeartbeats 1000000 in
theorem yplaces_zero {x count : Nat} {S : ByteArray} {w : World} (t0 : (FloatKind.f64.format.order x 0 == some .eq) = true)
  (C1 : Hid (∀ W, Cq 65 #[.int .i64 count] (.string S) W)) :
  Cq 62 #[.float .f64 x, .int .i64 count] (.tuple #[.string S, .int .i64 0]) w := by
 go_enter Tryz.func62, Tryz.ntmps62
 go_wp2_with fail
 refine (C1.out _).mono ?_
 rintro e w' ⟨rfl, rfl⟩
 go_wp2
 go_ret2
 exact ⟨rfl, rfl⟩
set_option maxRecDepth 100000 in
set_option maxHeartbeats 1000000 in
theorem yplaces_low {x count L : Nat} {n p : Int} {S : ByteArray} {w : World} (t0 : (FloatKind.f64.format.order x 0 == some .eq) = false) (b1 : -400 ≤ n) (b2 : n ≤ 400) (hc : count ≤ 100) (hp : (count : Int) - n = p) (hL : S.size = L) (hcL : L = count)
  (C1 : Hid (∀ W, Ct 100 #[.float .f64 x] (.int .i64 n) W))
  (C2 : Hid (∀ W, Ct 57 #[.float .f64 x, .int .i64 p] (.string S) W)) :
  Ct 62 #[.float .f64 x, .int .i64 count] (.tuple #[.string S, .int .i64 (n - 1)]) w := by
 have e1 : (0 : Int) ≤ count := by omega
 have e2 : (count : Int) ≤ 100 := by omega
 have e3 : (count : Int) - 1 - (n - 1) = p := by omega
 have e4 : ¬ (count : Int) < (L : Int) := by omega
 clear hcL hp hc
 go_enter Tryz.func62, Tryz.ntmps62
 go_wp2_with fail
 refine (C1.out _).mono ?_
 rintro e w1 ⟨rfl, b1'⟩
 have B1 := Lib.hid b1'
 clear b1'
 go_wp2_with fail
 refine (C2.out _).mono ?_
 rintro e w2 ⟨rfl, b2'⟩
 have B2 := Lib.hid (below_le B1.out b2')
 clear b2'
 go_wp2
 go_ret2
 exact ⟨rfl, B2.out⟩
set_option maxRecDepth 100000 in
set_option maxHeartbeats 1000000 in
theorem yplaces_high {x count L : Nat} {n p : Int} {S T : ByteArray} {w : World} (t0 : (FloatKind.f64.format.order x 0 == some .eq) = false) (b1 : -400 ≤ n) (b2 : n ≤ 400) (hc : count ≤ 100) (hp : (count : Int) - n = p) (hL : S.size = L) (hcL : count < L) (hT : S.extract 0 count = T)
  (C1 : Hid (∀ W, Ct 100 #[.float .f64 x] (.int .i64 n) W))
  (C2 : Hid (∀ W, Ct 57 #[.float .f64 x, .int .i64 p] (.string S) W)) :
  Ct 62 #[.float .f64 x, .int .i64 count] (.tuple #[.string T, .int .i64 n]) w := by
 have e1 : (0 : Int) ≤ count := by omega
 have e2 : (count : Int) ≤ 100 := by omega
 have e3 : (count : Int) - 1 - (n - 1) = p := by omega
 have e4 : (count : Int) < (L : Int) := by omega
 have HT := Lib.hid hT
 clear hcL hp hc hT
 go_enter Tryz.func62, Tryz.ntmps62
 go_wp2_with fail
 refine (C1.out _).mono ?_
 rintro e w1 ⟨rfl, b1'⟩
 have B1 := Lib.hid b1'
 clear b1'
 go_wp2_with fail
 refine (C2.out _).mono ?_
 rintro e w2 ⟨rfl, b2'⟩
 have B2 := Lib.hid (below_le B1.out b2')
 clear b2'
 go_wp2
 go_ret2
 exact ⟨by rw [HT.out]; go_num, B2.out⟩
theorem yplaces_any {x count : Nat} {D : List Nat} {E : Int} {w : World} (hx : x < 9218868437227405312) (h1 : 1 ≤ count) (h2 : count ≤ 50) (h : LdQ x count D E) :
  Ct 62 #[.float .f64 x, .int .i64 count] (.tuple #[.string (strOf D), .int .i64 E]) w := by
 have t0 := ord_eq_pos (x := x) (y := 0) (by omega) (by omega)
 rcases h with ⟨rfl, rfl, rfl⟩ | ⟨h0, n, g1, g2, g3, rfl, rfl⟩
 ·refine (yplaces_zero t0 (Lib.hid fun W => ynoughts_any count W (by omega))).mono ?_
  rintro e w' ⟨rfl, rfl⟩
  exact ⟨rfl, Below.refl _ _⟩
 ·rw [decide_eq_false (by omega)] at t0
  obtain ⟨a, b⟩ := rhN_at g1 h1
  have C1 := Lib.hid (fun W => ypoint_is (w := W) h0 hx g1 g2 g3)
  have C2 := Lib.hid (fun W => yrounded_any (p := (count : Int) - n) (w := W) hx (by omega) (by omega))
  rcases Nat.lt_or_ge (rhN x (count - n)) (10 ^ count) with k | k
  ·have hl := dL_len (k := count - 1) a (by rw [show count - 1 + 1 = count by omega]; exact k)
   have := yplaces_low (L := count) (w := w) t0 (by omega) (by omega) (by omega) rfl (by rw [strOf_size, hl]; omega) rfl C1 C2
   rw [List.take_of_length_le (by omega), hl, show n - 1 + ((count - 1 + 1 : Nat) : Int) - (count : Int) = n - 1 by omega]
   exact this
  ·have hl := dL_len (k := count) k (by rw [Nat.pow_succ]; have := ten_pos count; omega)
   have := yplaces_high (L := count + 1) (w := w) t0 (by omega) (by omega) (by omega) rfl (by rw [strOf_size, hl]) (by omega) (ext_take _ _) C1 C2
   rw [hl, show n - 1 + ((count + 1 : Nat) : Int) - (count : Int) = n by omega]
   rw [bl_strOf (fun c hc => by have := dg10_iff.1 (dL_dig _ c hc); omega)] at this
   exact this
theorem yplaces_amt {x y count : Nat} {D : List Nat} {E : Int} {w : World} (hf : rung x < 9218868437227405312) (hy : AmtOf x y) (h1 : 1 ≤ count) (h2 : count ≤ 50) (h : LdQ (rung x) count D E) :
  Ct 62 #[.float .f64 y, .int .i64 count] (.tuple #[.string (strOf D), .int .i64 E]) w := by
 rcases hy with rfl | ⟨h0, rfl⟩
 ·exact yplaces_any hf h1 h2 h
 ·rcases h with ⟨_, rfl, rfl⟩ | ⟨g, _⟩
  ·have t0 : (FloatKind.f64.format.order y 0 == some .eq) = true := by
    rw [show FloatKind.f64.format.order y 0 = Ieee.double.order y 0 from rfl, order_eq (by omega) (by decide), (frank_pos (x := 0) (by omega)).1, beq_iff_eq, Option.some.injEq, Int.compare_eq_eq]
    unfold frank
    rw [h0]
    split <;> rfl
   refine (yplaces_zero t0 (Lib.hid fun W => ynoughts_any count W (by omega))).mono ?_
   rintro e w' ⟨rfl, rfl⟩
   exact ⟨rfl, Below.refl _ _⟩
  ·omega
theorem tleading_any {x count : Nat} {D : List Nat} {E : Int} {w : World} (hx : x < 9218868437227405312) (hz : TzTab w) (h1 : 1 ≤ count) (h2 : count ≤ 50) (h : LdQ x count D E) :
  Ct 60 #[.float .f64 x, .int .i64 count] (.tuple #[.string (strOf D), .int .i64 E]) w := by
 rcases h with ⟨rfl, rfl, rfl⟩ | ⟨h0, n, g1, g2, g3, rfl, rfl⟩
 ·refine tlead_zero (Lib.hid fun W hW => ?_) (Lib.hid fun W => trepeat_any count W (by omega))
  subst hW
  refine (pparts_g 0 W (by omega) hz).mono ?_
  rintro e w' ⟨m, two, A, k, c, rfl, gA, gp, gb⟩
  rcases gp with ⟨_, rfl, rfl⟩ | ⟨g, _⟩
  ·have : k = 0 := by
    rw [← gA.len]
    rfl
   subst this
   exact ⟨A, c, rfl, gb⟩
  ·omega
 ·obtain ⟨a, b⟩ := rhN_at g1 h1
  have hl : count ≤ (dL (rhN x (count - n))).length ∧ (dL (rhN x (count - n))).length ≤ count + 1 := by
   rcases Nat.lt_or_ge (rhN x (count - n)) (10 ^ count) with h | h
   ·rw [dL_len (k := count - 1) a (by rw [show count - 1 + 1 = count by omega]; exact h)]
    omega
   ·rw [dL_len (k := count) h (by rw [Nat.pow_succ]; have := ten_pos count; omega)]
    omega
  have hT : (strOf (dL (rhN x (count - n)))).extract 0 count = strOf ((dL (rhN x (count - n))).take count) := by
   rw [ext_take, bl_strOf (fun c hc => by have := dg10_iff.1 (dL_dig _ c hc); omega)]
  refine tlead_pos (L := (dL (rhN x (count - n))).length) (by omega) (by omega) h1 (by omega) rfl (strOf_size _) hl.1 (by omega) hT (Lib.hid fun W hW => ?_)
   (Lib.hid fun W A k c m two hA hp => tpoint_is hA hp g1) (Lib.hid fun W A k c m two hA hp => tnear_any hA (.inr ⟨h0, hp⟩) (by omega) (by omega))
  subst hW
  refine (pparts_pos x W h0 hx hz).mono ?_
  rintro e w' ⟨m, two, A, k, c, rfl, gA, gp, gb⟩
  refine ⟨A, k, c, m, two, rfl, ?_, gA, gp, gb⟩
  rw [← gA.len]
  refine List.length_pos_iff.2 fun e0 => ?_
  have := wds_val m
  rw [e0] at this
  have h3 : val [] = 0 := rfl
  have := gp.pos.1
  omega

end Go.Proofs.YtfcpkdafkmohkaaGreatDoor
namespace Go.Proofs.YtfcpkdafkmohkaaGreatDoor
open Go.RowKit
theorem ytext_nan (x : Nat) (w : World)
  (CN : Hid (∀ W, Cq 34 #[.float .f64 x] (.bool true) W)) :
  Cq 45 #[.float .f64 x] (.string ⟨#[78, 97, 78]⟩) w := by
 go_enter Tryz.func45, Tryz.ntmps45
 go_wp2_with fail
 refine (CN.out _).mono ?_
 rintro e w' ⟨rfl, rfl⟩
 go_wp2
 go_ret
 exact ⟨rfl, rfl⟩
theorem ytext_zero (x : Nat) (w : World) (t0 : (FloatKind.f64.format.order x 0 == some .eq) = true)
  (CN : Hid (∀ W, Cq 34 #[.float .f64 x] (.bool false) W)) :
  Cq 45 #[.float .f64 x] (.string ⟨#[48]⟩) w := by
 go_enter Tryz.func45, Tryz.ntmps45
 go_wp2_with fail
 refine (CN.out _).mono ?_
 rintro e w' ⟨rfl, rfl⟩
 go_wp2
 go_ret
 exact ⟨rfl, rfl⟩
theorem ytext_inf (x : Nat) (w : World) (t0 : (FloatKind.f64.format.order x 0 == some .eq) = false) (t1 : (FloatKind.f64.format.order x 0 == some .lt) = false)
  (CN : Hid (∀ W, Cq 34 #[.float .f64 x] (.bool false) W))
  (CI : Hid (∀ W, Cq 36 #[.float .f64 x, .int .i64 1] (.bool true) W)) :
  Cq 45 #[.float .f64 x] (.string ⟨#[73, 110, 102, 105, 110, 105, 116, 121]⟩) w := by
 go_enter Tryz.func45, Tryz.ntmps45
 go_wp2_with fail
 refine (CN.out _).mono ?_
 rintro e w' ⟨rfl, rfl⟩
 go_wp2_with fail
 refine (CI.out _).mono ?_
 rintro e w' ⟨rfl, rfl⟩
 go_wp2
 go_ret
 exact ⟨rfl, rfl⟩
theorem ytext_neg (x y : Nat) (S F : ByteArray) (w : World) (t0 : (FloatKind.f64.format.order x 0 == some .eq) = false) (t1 : (FloatKind.f64.format.order x 0 == some .lt) = true)
  (r3 : ∀ W, (Op.unary UnOp.neg (.float .f64 x)).run Tryz.prog W = .ok (.float .f64 y) W)
  (CN : Hid (∀ W, Cq 34 #[.float .f64 x] (.bool false) W))
  (CT : Hid (∀ W, Ct 45 #[.float .f64 y] (.string S) W)) (hS : Hid (S.size ≤ 1000000)) (hF : ⟨#[45]⟩ ++ S = F) :
  Ct 45 #[.float .f64 x] (.string F) w := by
 have g1 : ¬ 9223372036854775807 < 1 + S.size := by have := hS.out; omega
 go_enter Tryz.func45, Tryz.ntmps45
 go_wp2_with fail
 refine (CN.out _).mono ?_
 rintro e w' ⟨rfl, rfl⟩
 go_wp2_with fail
 refine (CT.out _).mono ?_
 rintro e w2 ⟨rfl, b2⟩
 have B2 := Lib.hid b2
 clear b2
 go_wp2
 go_ret
 exact ⟨rfl, B2.out⟩
set_option maxRecDepth 100000 in
set_option maxHeartbeats 1000000 in
theorem ytext_whole (x : Nat) (N : Int) (n z : Nat) (Z : ByteArray) (S F : ByteArray) (w : World) (t0 : (FloatKind.f64.format.order x 0 == some .eq) = false) (t1 : (FloatKind.f64.format.order x 0 == some .lt) = false) (hn : S.size = n) (h1 : (n : Int) ≤ N) (h2 : N ≤ 21) (hz : N - (n : Int) = (z : Int)) (hZ : Hid (Z.size ≤ 1000)) (hF : S ++ Z = F)
  (CR : Hid (∀ W, Cq 65 #[.int .i64 z] (.string Z) W))
  (CN : Hid (∀ W, Cq 34 #[.float .f64 x] (.bool false) W))
  (CI : Hid (∀ W, Cq 36 #[.float .f64 x, .int .i64 1] (.bool false) W))
  (C : Hid (∀ W, Ct 42 #[.float .f64 x] (.tuple #[.string S, .int .i64 N]) W)) :
  Ct 45 #[.float .f64 x] (.string F) w := by
 have g1 : ¬ 9223372036854775807 < n + Z.size := by have := hZ.out; omega
 have hzz := Lib.hid hz
 have h6 : 0 ≤ (n : Int) := by omega
 go_enter Tryz.func45, Tryz.ntmps45
 go_wp2_with fail
 refine (CN.out _).mono ?_
 rintro e w' ⟨rfl, rfl⟩
 go_wp2_with fail
 refine (CI.out _).mono ?_
 rintro e w' ⟨rfl, rfl⟩
 go_wp2_with fail
 refine (C.out _).mono ?_
 rintro e w1 ⟨rfl, b1'⟩
 have B1 := Lib.hid b1'
 clear b1'
 go_wp2_with fail
 refine (CR.out _).mono ?_
 rintro e w' ⟨rfl, rfl⟩
 go_wp2
 go_ret
 exact ⟨rfl, B1.out⟩
set_option maxRecDepth 100000 in
set_option maxHeartbeats 1000000 in
theorem ytext_point (x : Nat) (N : Int) (n j : Nat) (H D T : ByteArray) (S F : ByteArray) (w : World) (t0 : (FloatKind.f64.format.order x 0 == some .eq) = false) (t1 : (FloatKind.f64.format.order x 0 == some .lt) = false) (hn : S.size = n) (hj : N = (j : Int)) (h0 : 0 < j) (h1 : j < n) (h2 : j ≤ 21) (hH : S.extract 0 j = H) (hHs : Hid (H.size ≤ 1000)) (hD : H ++ ⟨#[46]⟩ = D) (hDs : Hid (D.size ≤ 1001)) (hT : S.extract j n = T) (hTs : Hid (T.size ≤ 1000)) (hF : D ++ T = F)
  (CN : Hid (∀ W, Cq 34 #[.float .f64 x] (.bool false) W))
  (CI : Hid (∀ W, Cq 36 #[.float .f64 x, .int .i64 1] (.bool false) W))
  (C : Hid (∀ W, Ct 42 #[.float .f64 x] (.tuple #[.string S, .int .i64 N]) W)) :
  Ct 45 #[.float .f64 x] (.string F) w := by
 subst hj
 have t2 : ¬ (n : Int) ≤ (j : Int) := by omega
 have t2' : decide (n ≤ j) = false := decide_eq_false (by omega)
 have t3 : 0 < (j : Int) := by omega
 have t4 : (j : Int) ≤ 21 := by omega
 have t5 : (j : Int) ≤ (n : Int) := by omega
 have t6 : 0 ≤ (j : Int) := by omega
 have g1 : ¬ 9223372036854775807 < H.size + 1 := by have := hHs.out; omega
 have g2 : ¬ 9223372036854775807 < D.size + T.size := by have := hDs.out; have := hTs.out; omega
 go_enter Tryz.func45, Tryz.ntmps45
 go_wp2_with fail
 refine (CN.out _).mono ?_
 rintro e w' ⟨rfl, rfl⟩
 go_wp2_with fail
 refine (CI.out _).mono ?_
 rintro e w' ⟨rfl, rfl⟩
 go_wp2_with fail
 refine (C.out _).mono ?_
 rintro e w1 ⟨rfl, b1'⟩
 have B1 := Lib.hid b1'
 clear b1'
 go_wp2_with fail
 clear hHs hDs hTs h0 h1 h2
 go_quiet (fail)
 go_wp2
 go_ret
 exact ⟨rfl, below_drewN' B1.out _⟩
set_option maxRecDepth 100000 in
set_option maxHeartbeats 1000000 in
theorem ytext_low (x : Nat) (N : Int) (n z : Nat) (Z D : ByteArray) (S F : ByteArray) (w : World) (t0 : (FloatKind.f64.format.order x 0 == some .eq) = false) (t1 : (FloatKind.f64.format.order x 0 == some .lt) = false) (hn : S.size = n) (hn1 : 1 ≤ n) (hn2 : n ≤ 1000) (h1 : -6 < N) (h2 : N ≤ 0) (hz : -N = (z : Int)) (hZ : Hid (Z.size ≤ 1000)) (hD : ⟨#[48, 46]⟩ ++ Z = D) (hDs : Hid (D.size ≤ 1002)) (hF : D ++ S = F)
  (CR : Hid (∀ W, Cq 65 #[.int .i64 z] (.string Z) W))
  (CN : Hid (∀ W, Cq 34 #[.float .f64 x] (.bool false) W))
  (CI : Hid (∀ W, Cq 36 #[.float .f64 x, .int .i64 1] (.bool false) W))
  (C : Hid (∀ W, Ct 42 #[.float .f64 x] (.tuple #[.string S, .int .i64 N]) W)) :
  Ct 45 #[.float .f64 x] (.string F) w := by
 have g1 : ¬ 9223372036854775807 < 2 + Z.size := by have := hZ.out; omega
 have g2 : ¬ 9223372036854775807 < D.size + n := by have := hDs.out; omega
 have hzz := Lib.hid hz
 have t2 : ¬ (n : Int) ≤ N := by omega
 have t3 : ¬ 0 < N := by omega
 have h6 : 0 ≤ (n : Int) := by omega
 go_enter Tryz.func45, Tryz.ntmps45
 go_wp2_with fail
 refine (CN.out _).mono ?_
 rintro e w' ⟨rfl, rfl⟩
 go_wp2_with fail
 refine (CI.out _).mono ?_
 rintro e w' ⟨rfl, rfl⟩
 go_wp2_with fail
 refine (C.out _).mono ?_
 rintro e w1 ⟨rfl, b1'⟩
 have B1 := Lib.hid b1'
 clear b1'
 go_wp2_with fail
 refine (CR.out _).mono ?_
 rintro e w' ⟨rfl, rfl⟩
 go_wp2
 go_ret
 exact ⟨rfl, B1.out⟩
set_option maxRecDepth 100000 in
set_option maxHeartbeats 1000000 in
theorem ytext_high (x : Nat) (N : Int) (n : Nat) (S F : ByteArray) (w : World) (t0 : (FloatKind.f64.format.order x 0 == some .eq) = false) (t1 : (FloatKind.f64.format.order x 0 == some .lt) = false) (hn : S.size = n) (b1 : N ≤ 1000) (h1 : 21 < N)
  (CE : Hid (∀ W, Ct 63 #[.string S, .int .i64 (N - 1)] (.string F) W))
  (CN : Hid (∀ W, Cq 34 #[.float .f64 x] (.bool false) W))
  (CI : Hid (∀ W, Cq 36 #[.float .f64 x, .int .i64 1] (.bool false) W))
  (C : Hid (∀ W, Ct 42 #[.float .f64 x] (.tuple #[.string S, .int .i64 N]) W)) :
  Ct 45 #[.float .f64 x] (.string F) w := by
 have t4 : ¬ N ≤ 21 := by omega
 have t3 : 0 < N := by omega
 have t5 : ¬ N ≤ 0 := by omega
 have t6 : -6 < N := by omega
 by_cases hw : (n : Int) ≤ N
 ·skip
  go_enter Tryz.func45, Tryz.ntmps45
  go_wp2_with fail
  refine (CN.out _).mono ?_
  rintro e w' ⟨rfl, rfl⟩
  go_wp2_with fail
  refine (CI.out _).mono ?_
  rintro e w' ⟨rfl, rfl⟩
  go_wp2_with fail
  refine (C.out _).mono ?_
  rintro e w1 ⟨rfl, b1'⟩
  have B1 := Lib.hid b1'
  clear b1'
  go_wp2_with fail
  refine (CE.out _).mono ?_
  rintro e w2 ⟨rfl, b2'⟩
  have B2 := Lib.hid (below_le B1.out b2')
  clear b2'
  go_wp2
  go_ret
  exact ⟨rfl, B2.out⟩
 ·skip
  go_enter Tryz.func45, Tryz.ntmps45
  go_wp2_with fail
  refine (CN.out _).mono ?_
  rintro e w' ⟨rfl, rfl⟩
  go_wp2_with fail
  refine (CI.out _).mono ?_
  rintro e w' ⟨rfl, rfl⟩
  go_wp2_with fail
  refine (C.out _).mono ?_
  rintro e w1 ⟨rfl, b1'⟩
  have B1 := Lib.hid b1'
  clear b1'
  go_wp2_with fail
  refine (CE.out _).mono ?_
  rintro e w2 ⟨rfl, b2'⟩
  have B2 := Lib.hid (below_le B1.out b2')
  clear b2'
  go_wp2
  go_ret
  exact ⟨rfl, B2.out⟩
set_option maxRecDepth 100000 in
set_option maxHeartbeats 1000000 in
theorem ytext_tiny (x : Nat) (N : Int) (n : Nat) (S F : ByteArray) (w : World) (t0 : (FloatKind.f64.format.order x 0 == some .eq) = false) (t1 : (FloatKind.f64.format.order x 0 == some .lt) = false) (hn : S.size = n) (hn1 : 1 ≤ n) (hn2 : n ≤ 1000) (b1 : -1000 ≤ N) (h1 : N ≤ -6)
  (CE : Hid (∀ W, Ct 63 #[.string S, .int .i64 (N - 1)] (.string F) W))
  (CN : Hid (∀ W, Cq 34 #[.float .f64 x] (.bool false) W))
  (CI : Hid (∀ W, Cq 36 #[.float .f64 x, .int .i64 1] (.bool false) W))
  (C : Hid (∀ W, Ct 42 #[.float .f64 x] (.tuple #[.string S, .int .i64 N]) W)) :
  Ct 45 #[.float .f64 x] (.string F) w := by
 have t2 : ¬ (n : Int) ≤ N := by omega
 have t3 : ¬ 0 < N := by omega
 have t6 : ¬ -6 < N := by omega
 go_enter Tryz.func45, Tryz.ntmps45
 go_wp2_with fail
 refine (CN.out _).mono ?_
 rintro e w' ⟨rfl, rfl⟩
 go_wp2_with fail
 refine (CI.out _).mono ?_
 rintro e w' ⟨rfl, rfl⟩
 go_wp2_with fail
 refine (C.out _).mono ?_
 rintro e w1 ⟨rfl, b1'⟩
 have B1 := Lib.hid b1'
 clear b1'
 go_wp2_with fail
 refine (CE.out _).mono ?_
 rintro e w2 ⟨rfl, b2'⟩
 have B2 := Lib.hid (below_le B1.out b2')
 clear b2'
 go_wp2
 go_ret
 exact ⟨rfl, B2.out⟩

end Go.Proofs.YtfcpkdafkmohkaaGreatDoor
namespace Go.Proofs.YtfcpkdafkmohkaaGreatDoor
open Go.RowKit
theorem wd_hi {x : Nat} (hx : x < 18446744073709551616) (h : fneg x = true) : x = 9223372036854775808 + rung x := by
 unfold fneg at h
 have h1 := of_decide_eq_true (by simpa using h : decide (x / 9223372036854775808 % 2 = 1) = true)
 unfold rung
 omega
theorem negW_hi {r : Nat} (h : r < 9223372036854775808) : negW (9223372036854775808 + r) = r := by
 have h1 := negW_eq h
 have h2 : (9223372036854775808 + r) ^^^ 9223372036854775808 = r := by
  have h3 : r ^^^ 9223372036854775808 = 9223372036854775808 + r := h1
  rw [← h3, Nat.xor_assoc, Nat.xor_self, Nat.xor_zero]
 exact h2
theorem pt_in {l : List Nat} {j : Nat} (h0 : 0 < j) (h : j < l.length) : ptL l (l.length - j) = l.take j ++ 46 :: l.drop j := by
 unfold ptL
 rw [if_neg (by omega), show l.length - j + 1 - l.length = 0 by omega, List.replicate_zero, List.nil_append, show 0 + l.length - (l.length - j) = j by omega]
theorem pt_out (l : List Nat) (z : Nat) (h : 0 < l.length) : ptL l (l.length + z) = 48 :: 46 :: (List.replicate z 48 ++ l) := by
 unfold ptL
 rw [if_neg (by omega), show l.length + z + 1 - l.length = z + 1 by omega, show z + 1 + l.length - (l.length + z) = 1 by omega, List.replicate_succ, List.cons_append, List.take_succ_cons, List.take_zero, List.drop_succ_cons, List.drop_zero]
 rfl
theorem ytext_pos {r : Nat} {L : List Nat} {w : World} (hr : r < 9218868437227405312) (h : PlQ r L) :
  Ct 45 #[.float .f64 r] (.string (strOf L)) w := by
 have CN := Lib.hid (fun W => isNaN_any r W)
 have CI := Lib.hid (fun W => isInf1_any r W)
 have e1 : rung r = r := (frank_pos (x := r) (by omega)).2
 rw [show fnan r = false from decide_eq_false (by rw [e1]; omega)] at CN
 rw [show finf r = false from decide_eq_false (by rw [e1]; omega), Bool.false_and] at CI
 rcases h with ⟨rfl, rfl⟩ | ⟨h0, D, N, hq, rfl⟩
 ·refine (ytext_zero 0 w (by rw [ord_eq_pos (by omega) (by omega)]; rfl) CN).mono ?_
  rintro e w' ⟨rfl, rfl⟩
  exact ⟨rfl, Below.refl _ _⟩
 ·obtain ⟨b1, b2, b3, b4, b5⟩ := hq.bd h0 hr
  have t0 : (FloatKind.f64.format.order r 0 == some .eq) = false := by rw [ord_eq_pos (by omega) (by omega)]; exact decide_eq_false (by omega)
  have t1 : (FloatKind.f64.format.order r 0 == some .lt) = false := by rw [ord_lt_pos (by omega) (by omega)]; exact decide_eq_false (by omega)
  have C := Lib.hid (fun W => yDigits_is (w := W) h0 hr hq)
  have CE := Lib.hid (fun W => yexponent_any D (N - 1) W b5 b3 (by omega) (by omega) (by omega))
  have hb := bl_strOf b5
  have hsz := strOf_size D
  unfold plL
  by_cases h1 : N ≤ -6
  ·rw [if_pos (.inl h1)]
   exact ytext_tiny r N D.length _ _ w t0 t1 hsz b3 (by omega) (by omega) h1 CE CN CI C
  ·by_cases h2 : 21 < N
   ·rw [if_pos (.inr h2)]
    exact ytext_high r N D.length _ _ w t0 t1 hsz (by omega) h2 CE CN CI C
   ·rw [if_neg (by omega)]
    by_cases h3 : (D.length : Int) ≤ N
    ·rw [if_pos h3]
     exact ytext_whole r N D.length (N - D.length).toNat (strOf (List.replicate (N - D.length).toNat 48)) _ _ w t0 t1 hsz h3 (by omega) (by omega) (Lib.hid (by rw [strOf_size, List.length_replicate]; omega)) (strOf_append _ _) (Lib.hid fun W => (ynoughts_any _ W (by omega)).mono fun e w' h => ⟨h.1, h.2⟩) CN CI C
    ·rw [if_neg h3]
     by_cases h4 : N ≤ 0
     ·obtain ⟨z, hz⟩ : ∃ z : Nat, -N = (z : Int) := ⟨(-N).toNat, by omega⟩
      rw [show ((D.length : Int) - N).toNat = D.length + z by omega, pt_out D z b3]
      refine ytext_low r N D.length z (strOf (List.replicate z 48)) (strOf (48 :: 46 :: List.replicate z 48)) _ _ w t0 t1 hsz b3 (by omega) (by omega) h4 hz (Lib.hid (by rw [strOf_size, List.length_replicate]; omega)) ?_ (Lib.hid (by rw [strOf_size, List.length_cons, List.length_cons, List.length_replicate]; omega)) ?_ (Lib.hid fun W => (ynoughts_any _ W (by omega)).mono fun e w' h => ⟨h.1, h.2⟩) CN CI C
      ·rw [show (⟨#[48, 46]⟩ : ByteArray) = strOf [48, 46] from rfl, strOf_append]; rfl
      ·rw [strOf_append]; rfl
     ·obtain ⟨j, hj⟩ : ∃ j : Nat, N = (j : Int) := ⟨N.toNat, by omega⟩
      rw [show ((D.length : Int) - N).toNat = D.length - j by omega, pt_in (by omega) (by omega)]
      refine ytext_point r N D.length j (strOf (D.take j)) (strOf (D.take j ++ [46])) (strOf (D.drop j)) _ _ w t0 t1 hsz hj (by omega) (by omega) (by omega) (by rw [ext_take, hb]) (Lib.hid (by rw [strOf_size, List.length_take]; omega)) (by rw [dot_str, strOf_append]) (Lib.hid (by rw [strOf_size, List.length_append, List.length_take, List.length_singleton]; omega)) (by rw [← hsz, ext_drop, hb]) (Lib.hid (by rw [strOf_size, List.length_drop]; omega)) ?_ CN CI C
      rw [strOf_append, List.append_assoc, List.singleton_append]
theorem ytext_any {x : Nat} {L : List Nat} {w : World} (hx : x < 18446744073709551616) (h : TxQ x L) :
  Ct 45 #[.float .f64 x] (.string (strOf L)) w := by
 have CN := Lib.hid (fun W => isNaN_any x W)
 rcases h with ⟨h1, rfl⟩ | ⟨h1, h2, rfl⟩ | ⟨h1, h2, l, h3, rfl⟩
 ·rw [h1] at CN
  refine (ytext_nan x w CN).mono ?_
  rintro e w' ⟨rfl, rfl⟩
  exact ⟨rfl, Below.refl _ _⟩
 ·rw [h1] at CN
  have hr : rung x = 9218868437227405312 := of_decide_eq_true h2
  have pos : ∀ W, Cq 45 #[.float .f64 9218868437227405312] (.string (strOf infL)) W := fun W =>
   ytext_inf 9218868437227405312 W (by rw [ord_eq_pos (by omega) (by omega)]; rfl) (by rw [ord_lt_pos (by omega) (by omega)]; rfl) (Lib.hid fun W => isNaN_any _ W) (Lib.hid fun W => isInf1_any _ W)
  unfold sgx ngB
  cases hn : fneg x
  ·have : x = 9218868437227405312 := by
    rw [← hr]
    unfold fneg at hn
    unfold rung
    simp at hn
    omega
   subst this
   refine (pos w).mono ?_
   rintro e w' ⟨rfl, rfl⟩
   exact ⟨rfl, Below.refl _ _⟩
  ·have hw := wd_hi hx hn
   rw [hr] at hw
   subst hw
   rw [Bool.true_and, if_pos (decide_eq_true (by omega))]
   refine ytext_neg _ 9218868437227405312 (strOf infL) _ w (by decide) (by decide) (fun W => by
    have h3 : (Op.unary UnOp.neg (.float .f64 (9223372036854775808 + 9218868437227405312))).run Tryz.prog W = .ok (.float .f64 (negW (9223372036854775808 + 9218868437227405312))) W := rfl
    rw [negW_hi (by omega)] at h3
    exact h3) CN (Lib.hid fun W => (pos W).mono fun e w' h => ⟨h.1, h.2 ▸ Below.refl _ _⟩) (Lib.hid (by decide)) ?_
   rw [show (⟨#[45]⟩ : ByteArray) = strOf [45] from rfl, strOf_append]
 ·rw [h1] at CN
  have hr := fin_rung h1 h2
  have hp := fun W => ytext_pos (w := W) hr h3
  obtain ⟨l1, l2⟩ := PlQ.bd hr h3
  unfold sgx ngB
  cases hn : fneg x
  ·have : rung x = x := by
    unfold fneg at hn
    unfold rung
    simp at hn
    omega
   rw [this] at hp
   exact hp w
  ·have hw := wd_hi hx hn
   rcases Nat.eq_zero_or_pos (rung x) with h0 | h0
   ·rw [Bool.true_and, if_neg (by rw [h0]; decide)]
    rw [h0] at h3 hw
    rcases h3 with ⟨_, rfl⟩ | ⟨h4, _⟩
    ·subst hw
     refine (ytext_zero _ w (by decide) CN).mono ?_
     rintro e w' ⟨rfl, rfl⟩
     exact ⟨rfl, Below.refl _ _⟩
    ·omega
   ·rw [Bool.true_and, if_pos (decide_eq_true h0)]
    have hlt := ord_neg x
    rw [h1] at hlt
    have hg : ngB x = true := by unfold ngB; rw [hn, decide_eq_true h0]; rfl
    rw [hg] at hlt
    refine ytext_neg x (rung x) (strOf l) _ w ?_ hlt (fun W => by
     have h4 : (Op.unary UnOp.neg (.float .f64 x)).run Tryz.prog W = .ok (.float .f64 (negW x)) W := rfl
     rw [h4]
     conv => lhs; rw [hw]
     rw [negW_hi (by omega)]) CN (Lib.hid hp) (Lib.hid (by rw [strOf_size]; omega)) ?_
    ·have h5 := eq_of_beq hlt
     rw [h5]
     rfl
    ·rw [show (⟨#[45]⟩ : ByteArray) = strOf [45] from rfl, strOf_append]
theorem TxQ.bd {x : Nat} {L : List Nat} (h : TxQ x L) : (∀ c ∈ L, c < 256) ∧ L.length ≤ 2000 := by
 have hs : (∀ c ∈ sgx x, c < 256) ∧ (sgx x).length ≤ 1 := by
  unfold sgx
  split <;> simp
 rcases h with ⟨h1, rfl⟩ | ⟨h1, h2, rfl⟩ | ⟨h1, h2, l, h3, rfl⟩
 ·exact ⟨by simp, by simp⟩
 ·refine ⟨?_, by rw [List.length_append]; have : infL.length = 8 := rfl; omega⟩
  intro c hc
  rw [List.mem_append] at hc
  rcases hc with hc | hc
  ·exact hs.1 c hc
  ·exact (by decide : ∀ c ∈ infL, c < 256) c hc
 ·obtain ⟨l1, l2⟩ := PlQ.bd (fin_rung h1 h2) h3
  refine ⟨?_, by rw [List.length_append]; omega⟩
  intro c hc
  rw [List.mem_append] at hc
  rcases hc with hc | hc
  ·exact hs.1 c hc
  ·exact l1 c hc
theorem yText_any {x : Nat} {L : List Nat} {w : World} (hx : x < 18446744073709551616) (h : TxQ x L) :
  Ct 15 #[.float .f64 x] (.string (wdS L)) w := by
 have C := Lib.hid (fun W => ytext_any (w := W) hx h)
 obtain ⟨b1, b2⟩ := h.bd
 have CW := Lib.hid (fun W => vwide_any L W b1 (by omega))
 clear h b1 b2
 go_enter Tryz.func15, Tryz.ntmps15
 go_wp2_with fail
 refine (C.out _).mono ?_
 rintro e w1 ⟨rfl, b1⟩
 have B1 := Lib.hid b1
 clear b1
 go_wp2_with fail
 refine (CW.out _).mono ?_
 rintro e w2 ⟨rfl, b2⟩
 have B2 := Lib.hid (below_le B1.out b2)
 clear b2
 go_wp2
 go_ret
 exact ⟨rfl, B2.out⟩

end Go.Proofs.YtfcpkdafkmohkaaGreatDoor
namespace Go.Proofs.YtfcpkdafkmohkaaGreatDoor
open Go.RowKit
theorem kept_cell {W w' : World} (h : Below W.heap.size W w') (a : Addr) (v : Value) (hc : W.cell? a = some v) : w'.cell? a = some v := by
 rw [← hc]
 refine h.cell ?_
 rcases Nat.lt_or_ge a.block W.heap.size with h' | h'
 ·exact h'
 ·simp [World.cell?, Array.getElem?_eq_none h'] at hc
set_option maxRecDepth 100000 in
set_option maxHeartbeats 1000000 in
theorem tsigned_cap {T : Nat → List Nat → Prop} {x : Nat} {L : List Nat} {w : World} (f : FuncId) (pb : Addr) (hx : x < 18446744073709551616)
  (he : ∀ args (W : World), (callFunc f args).run Tryz.prog W = .ok (.enter f args) W)
  (hT : ∀ r l, r < 9218868437227405312 → T r l → (∀ c ∈ l, c < 256) ∧ l.length ≤ 99000 ∧ Ct f #[.float .f64 r, .pointer (some pb)] (.string (strOf l)) w)
  (h : SgQ T x L) : Ct 43 #[.float .f64 x, .func (Fn.func f) #[] #[.pointer (some pb)]] (.string (wdS L)) w := by
 have t0 := ord_neg x
 have CN := fun W => isNaN_any x W
 have CI := fun W => isInf0_any x W hx
 rcases h with ⟨h1, rfl⟩ | ⟨h1, h2, rfl⟩ | ⟨h1, h2, l, h3, rfl⟩
 ·rw [h1] at t0 CN
  exact tsigned_10nan x f pb _ w t0 (Lib.hid CN) (Lib.hid fun W => twide_any [78, 97, 78] W (by simp) (by simp))
 ·rw [h1] at t0 CN
  rw [h2] at CI
  unfold sgx
  cases hn : ngB x
  ·rw [hn] at t0
   exact tsigned_10inf x f pb _ w t0 (Lib.hid CN) (Lib.hid CI) (Lib.hid fun W => twide_any _ W (by decide) (by decide))
  ·rw [hn] at t0
   exact tsigned_11inf x f pb _ w t0 (Lib.hid CN) (Lib.hid CI) (Lib.hid fun W => twide_any _ W (by decide) (by decide))
 ·rw [h1] at t0 CN
  rw [h2] at CI
  obtain ⟨l1, l2, hc⟩ := hT _ l (fin_rung h1 h2) h3
  have CA := fun W => abs_any x W hx
  have CT : Hid (∀ W, W = w → Ct f #[.float .f64 (rung x), .pointer (some pb)] (.string (strOf l)) W) := Lib.hid (fun W hW => by
   subst hW
   exact hc)
  unfold sgx
  cases hn : ngB x
  ·rw [hn] at t0
   refine tsigned_10fin x f pb (strOf l) (strOf l) (rung x) _ w t0 (Lib.hid CN) (Lib.hid CI) (Lib.hid CA) he CT (Lib.hid (by rw [strOf_size]; omega)) ?_ (Lib.hid fun W => twide_any _ W l1 (by omega))
   rw [show (⟨#[]⟩ : ByteArray) = strOf [] from rfl, strOf_append]
   rfl
  ·rw [hn] at t0
   refine tsigned_11fin x f pb (strOf l) (strOf ([45] ++ l)) (rung x) _ w t0 (Lib.hid CN) (Lib.hid CI) (Lib.hid CA) he CT (Lib.hid (by rw [strOf_size]; omega)) ?_ (Lib.hid fun W => twide_any _ W ?_ ?_)
   ·rw [show (⟨#[45]⟩ : ByteArray) = strOf [45] from rfl, strOf_append]
   ·intro c hc
    rw [List.mem_append, List.mem_singleton] at hc
    rcases hc with rfl | hc
    ·omega
    ·exact l1 c hc
   ·rw [List.length_append, List.length_singleton]
    omega
theorem sgq_ex {T : Nat → List Nat → Prop} (x : Nat) (hT : ∀ r, r < 9218868437227405312 → ∃ l, T r l) : ∃ L, SgQ T x L := by
 unfold SgQ
 cases h1 : fnan x
 ·cases h2 : finf x
  ·obtain ⟨l, hl⟩ := hT _ (fin_rung h1 h2)
   exact ⟨_, .inr (.inr ⟨rfl, rfl, l, hl, rfl⟩)⟩
  ·exact ⟨_, .inr (.inl ⟨rfl, rfl, rfl⟩)⟩
 ·exact ⟨_, .inl ⟨rfl, rfl⟩⟩
theorem rung_lt (x : Nat) : rung x < 9223372036854775808 := by unfold rung; omega
end Go.Proofs.YtfcpkdafkmohkaaGreatDoor
