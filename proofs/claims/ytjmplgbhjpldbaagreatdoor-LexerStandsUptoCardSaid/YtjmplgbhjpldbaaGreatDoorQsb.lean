/-
  Merged texts (BE, Lb, Mb, Esc, Enc, Ni, BP, Dp, Dc, Dh, La, Na, Nb, Nf, Nj, Re, Lc, Ld).
-/
import Derived.Test.YtjmplgbhjpldbaaGreatDoorQsa
import Derived.Shelf.Strings.SlTrimAscii
import Derived.Shelf.Strings.Builder1
import Derived.Shelf.Strings.Builder2
import Derived.Shelf.Strings.OnBuilder
import Derived.Shelf.Strings.Trim
import Derived.Shelf.Small.Utf8
import Derived.Shelf.Small.Bits
import Derived.Shelf.Small.Strs
import Derived.Shelf.Small.Wraps
import Derived.Shelf.Strings.BuilderF
import Derived.Shelf.Strings.BuilderK
import Derived.Shelf.Strings.BuilderRune
import Derived.Shelf.Utf8.AppendRune
import Derived.Shelf.Strconv.Itoa0
import Derived.Shelf.Strings.Search1
import Derived.Shelf.Strings.Prefix
import Derived.Shelf.Unicode.Latin
import Derived.Shelf.Strings.Runes
import Derived.Shelf.Strings.AsciiSet
import Derived.Shelf.Unicode.DecodeSlow
import Derived.Shelf.Unicode.CaseLookup
import Derived.Shelf.Unicode.CaseConvert
import Derived.Shelf.Unicode.CaseTo
import Derived.Shelf.Unicode.CaseLaid
import Derived.Test.YtjmplgbhjpldbaaGreatDoorProg
import GoSem.Core.Utf8
import Derived.WalkKit
import Derived.WalkSpells
import Derived.WalkLawsBesides
import Derived.Deep.QuietTactic
import Derived.BigQuiet
import Derived.Lib.Hide
import Derived.Deep.OwnRows
import Derived.Laws.CopyOwn
import Derived.Deep.AppendLies
import Derived.Lib.BitFns
import Derived.Lib.Strings
import Derived.Laws.BitsAllLaws
import Derived.Lib.LaidTab
import Derived.Laws.BytesString
import Derived.Laws.Cells
import Derived.Lib.RuneBytes
import Derived.ProofKit
import Derived.OpenShut
import Derived.SizedLaws
import Derived.Deep.RegionWith
import Derived.BigRegion
import Derived.Test.YtjmplgbhjpldbaaGreatDoorRows
import Derived.Lib.ItoaNum
import Derived.Deep.DeepCutAuto
import Derived.Deep.RegionHeld3
import Derived.Laws.Closers25b
import Ieee.Arith
import GoSem.Core.Float
import Derived.Laws.FloatArith
import Derived.Laws.Externs
import Derived.Deep.WholeRow
import Derived.Laws.Tables
import Derived.Laws.EntriesVeiled
import Derived.Lib.SlTrimSet
import Derived.Lib.Case
import Derived.Lib.AppendIntMem
import Derived.OwnWalk
namespace Go.Proofs.YtjmplgbhjpldbaaGreatDoor
open Go.RowKit
theorem nrm_full {l : List Nat} (h : Ws l) (hv : l = [] ∨ 4294967296 ^ (l.length - 1) ≤ val l) : nrm l = l := by
 rcases hv with rfl | hv
 ·rfl
 ·have h1 := nrm_len l
  rcases Nat.lt_or_ge (nrm l).length l.length with h2 | h2
  ·have h3 := val_lt h.nrm
   rw [val_nrm] at h3
   have h4 : 4294967296 ^ (nrm l).length ≤ 4294967296 ^ (l.length - 1) := Nat.pow_le_pow_right (by omega) (by omega)
   omega
  ·have h3 := nrm_take l
   rw [List.take_of_length_le h2] at h3
   exact h3
structure TpT (a : List Nat) (x y k : Nat) (S : List Nat) (q : Nat) : Prop where
 len : S.length = a.length
 ws : Ws S
 far : ∀ j, k ≤ j → S.getD j 0 = a.getD j 0
 sum : val (S.take k) + 4294967296 ^ k * q = x * val (a.take k) + y
 low : q < 4294967296
theorem TpT.start {a : List Nat} (ha : Ws a) {x y : Nat} (hy : y < 4294967296) : TpT a x y 0 a y := ⟨rfl, ha, fun _ _ => rfl, by simp [val], hy⟩
def tpC (a : List Nat) (x k q : Nat) : Nat := q + a.getD k 0 * x
theorem tpC_lt {a : List Nat} {x k q : Nat} (ha : Ws a) (hx : x < 4294967296) (hq : q < 4294967296) : a.getD k 0 * x ≤ 18446744065119617025 ∧ tpC a x k q ≤ 18446744069414584320 := by
 have h1 := ha.getD k
 have h3 : a.getD k 0 * x ≤ 4294967295 * 4294967295 := Nat.mul_le_mul (by omega) (by omega)
 unfold tpC
 omega
theorem TpT.next {a : List Nat} {x y k : Nat} {S : List Nat} {q : Nat} (h : TpT a x y k S q) (ha : Ws a) (hx : x < 4294967296) (hk : k < a.length) :
  TpT a x y (k + 1) (S.set k (tpC a x k q % 4294967296)) (tpC a x k q / 4294967296) := by
 obtain ⟨h1, h2, h3, h4, h5⟩ := h
 have hc := (tpC_lt (k := k) ha hx h5).2
 refine ⟨by rw [List.length_set]; exact h1, h2.set (by omega), fun j hj => by rw [getD_set_ne (by omega)]; exact h3 j (by omega), ?_, by omega⟩
 rw [val_take_succ _ k (by rw [List.length_set]; omega), val_take_succ a k hk, getD_set_eq (by omega)]
 rw [take_congr (l := S.set k (tpC a x k q % 4294967296)) (m := S) k (by rw [List.length_set]; omega) (by omega) (fun j hj => getD_set_ne (by omega))]
 have e := step_words (4294967296 ^ k) (tpC a x k q) (val (S.take k)) (x * (val (a.take k) + 4294967296 ^ k * a.getD k 0) + y) (by
  have : tpC a x k q = q + a.getD k 0 * x := rfl
  rw [this]
  grind)
 rw [Nat.pow_succ]
 exact e
theorem TpT.fin {n x y q : Nat} {S : List Nat} (h : TpT (wds n) x y (wds n).length S q) (hx : 0 < x) : (if q = 0 then S else S ++ [q]) = wds (n * x + y) := by
 obtain ⟨h1, h2, h3, h4, h5⟩ := h
 rw [List.take_of_length_le (by omega), List.take_of_length_le (Nat.le_refl _), wds_val] at h4
 by_cases hq : q = 0
 ·rw [if_pos hq]
  rw [hq, Nat.mul_zero, Nat.add_zero] at h4
  have hv : val S = n * x + y := by rw [h4, Nat.mul_comm]
  rw [← hv, ← nrm_wds h2]
  refine (nrm_full h2 ?_).symm
  rcases Nat.eq_zero_or_pos (wds n).length with h0 | h0
  ·left; exact List.eq_nil_of_length_eq_zero (by omega)
  ·right
   have h6 := val_ge (l := wds n) (by rw [wds_nrm]; intro e; rw [e] at h0; simp at h0)
   rw [wds_nrm, wds_val] at h6
   rw [h1, hv]
   have : n * 1 ≤ n * x := Nat.mul_le_mul_left _ hx
   omega
 ·rw [if_neg hq]
  have hw : Ws (S ++ [q]) := h2.append (Ws.cons h5 Ws.nil)
  have hv : val (S ++ [q]) = n * x + y := by rw [val_snoc, h1, h4, Nat.mul_comm]
  rw [← hv, ← nrm_wds hw]
  refine (nrm_full hw (.inr ?_)).symm
  rw [val_snoc, List.length_append, List.length_singleton, Nat.add_sub_cancel]
  have : 4294967296 ^ S.length * 1 ≤ 4294967296 ^ S.length * q := Nat.mul_le_mul_left _ (by omega)
  omega
theorem OwnW.cell {B : Nat} {l : List Nat} {g n c : Nat} {w : World} (h : OwnW B l (.slice (some ⟨g, 0, none⟩) n c) w) (k : Nat) (hk : k < l.length) :
  w.cell? ⟨g, k, none⟩ = some (.int .u32 (l.getD k 0 : Nat)) ∧ w.frozen? ⟨g, k, none⟩ = false := by
 rcases h.2 with ⟨e, _⟩ | ⟨g', cap, cur, e, hB, hg, hcap, hmax, hcur, htk⟩
 ·cases e
 ·cases e
  refine ⟨?_, by simp [World.frozen?, hg]⟩
  have := World.ownsRow.cells (g := g) h rfl k (.int .u32 (l.getD k 0 : Nat)) (by rw [List.getElem?_map, getD_some hk]; rfl)
  by_cases hz : k = 0
  ·subst hz; simpa [Addr.add] using this
  ·simpa [Addr.add, hz] using this
theorem OwnW.set {B : Nat} {l : List Nat} {g n c : Nat} {w : World} (h : OwnW B l (.slice (some ⟨g, 0, none⟩) n c) w) (k u : Nat) :
  OwnW B (l.set k u) (.slice (some ⟨g, 0, none⟩) n c) (w.setCell ⟨g, k, none⟩ (.int .u32 (u : Nat))) := by
 rcases h.2 with ⟨e, _⟩ | ⟨g', cap, cur, e, hB, hg, hcap, hmax, hcur, htk⟩
 ·cases e
 ·cases e
  refine ⟨by rw [List.length_map, List.length_set, Nat.mul_one], .inr ⟨g, c, cur.set! k (.int .u32 (u : Nat)), by rw [List.length_set], hB, ?_, by rw [List.length_set]; exact hcap, hmax, ?_, ?_⟩⟩
  ·simp [World.setCell, Array.getElem?_modify, hg]
  ·simpa using hcur
  ·rw [List.map_set, ← htk]
   simp only [Array.set!_eq_setIfInBounds, Array.toList_setIfInBounds, List.length_set]
   rw [List.take_set]
set_option maxRecDepth 100000 in
set_option maxHeartbeats 1000000 in
theorem timesPlus_any (B : Nat) (v : Value) (n x y : Nat) (w : World) (h : OwnW B (wds n) v w) (hB : B ≤ w.heap.size) (hl : (wds n).length ≤ 1024) (hx : x < 4294967296) (hx0 : 0 < x) (hy : y < 4294967296) :
  Cp 143 #[v, .int .u32 x, .int .u32 y] w fun e w' => ∃ v', e = .returned v' ∧ OwnW B (wds (n * x + y)) v' w' ∧ Below B w w' := by
 obtain ⟨i0, hi, hz0, hz1, hz2⟩ := info_parts infoW
 have hy1 : IntKind.u64.wrap (y : Int) = (y : Int) := IntWalk.u64_in _ (by omega)
 have hx1 : IntKind.u64.wrap (x : Int) = (x : Int) := IntWalk.u64_in _ (by omega)
 have HX := Lib.hid hx
 have HX0 := Lib.hid hx0
 have HST := Lib.hid (TpT.start (x := x) (wds_ws n) hy)
 rcases h.2 with ⟨rfl, h0⟩ | ⟨g, cap, cur, rfl, hBg, hg, hcap, hmax, hcur, htk⟩
 ·have hnil : wds n = [] := List.eq_nil_of_length_eq_zero h0
  have hn0 : n = 0 := by rw [← wds_val n, hnil]; rfl
  have HF := Lib.hid (show (if y = 0 then ([] : List Nat) else [y]) = wds (n * x + y) from by
   have := (show TpT (wds n) x y (wds n).length [] y from by rw [hnil]; exact TpT.start Ws.nil hy).fin hx0
   rw [← this]; rfl)
  have hOn : OwnW B [] (.slice none 0 0) w := OwnW.nil _ _
  by_cases hy0 : y = 0
  ·rw [if_pos hy0] at HF
   have b0 : ((y : Int) == 0) = true := by rw [hy0]; rfl
   clear h hl hx hx0 hy h0 hnil hn0 hy0 HST
   go_enter Tryz.func143, Tryz.ntmps143
   go_wp2
   go_loopw [14, 7] (fun iv cv wr => iv = .int .i64 0 ∧ cv = .int .u64 (y : Nat) ∧ w = wr) (fun _ _ _ => 0)
   case atStart => exact ⟨rfl, rfl, rfl⟩
   case round =>
    obtain ⟨rfl, rfl, rfl⟩ := hrel
    go_wp2
    go_ret
    exact ⟨_, rfl, by rw [← HF.out]; exact hOn, Below.refl _ _⟩
  ·rw [if_neg hy0] at HF
   have b0 : ((y : Int) == 0) = false := by simp; omega
   have k1 : IntKind.u32.wrap (y : Int) = (y : Int) := IntWalk.u32_in _ (by omega)
   clear h hl hx hx0 hy h0 hnil hn0 hy0 HST
   go_enter Tryz.func143, Tryz.ntmps143
   go_wp2
   go_loopw [14, 7] (fun iv cv wr => iv = .int .i64 0 ∧ cv = .int .u64 (y : Nat) ∧ w = wr) (fun _ _ _ => 0)
   case atStart => exact ⟨rfl, rfl, rfl⟩
   case round =>
    obtain ⟨rfl, rfl, rfl⟩ := hrel
    go_wp2_with (at_builtin; refine wpList_append_own _ rfl _ _ 117 rfl B 107 i0 (.int .u32 0) 1 4 Tryz.underlying117 hi hz0 hz1 hz2 rfl (by decide) _ _ _ rfl (World.ownsRow.alloc (w := w) hOn _) ⟨w.heap.size, 0, none⟩ 1 1 [.int .u32 (y : Nat)] rfl rfl ?c1 ?c2 ?c3 ?c4 ?c5 ?_)
    case c1 => exact (cell_one_new _ _ _)
    case c2 => simp [Value.oneCell']
    case c3 => simp [maxLen]
    case c4 => simp
    case c5 => simp; omega
    intro v' w2 hown hgr _
    have HO2 := Lib.hid (OwnW.snoc (L := []) hown)
    have hbb : Below B w w2 := ((Below.refl _ _).alloc hB _).grown hgr (by simp; omega) (fun j hj => by simp [Value.ownBlock] at hj)
    clear hown hgr
    go_wp2
    go_ret
    exact ⟨_, rfl, by rw [← HF.out]; exact HO2.out, hbb⟩
 ·obtain ⟨N, hN⟩ : ∃ N, (wds n).length = N := ⟨_, rfl⟩
  have HO0 := Lib.hid h
  have HN := Lib.hid hN
  have HWS := Lib.hid (wds_ws n)
  rw [hN] at hl hcap HO0 ⊢
  have hN1 : (N : Int) ≤ 1024 := by omega
  clear h hx hx0 hy hg hcur htk hN hmax
  go_enter Tryz.func143, Tryz.ntmps143
  go_wp2
  go_loopw [14, 7] (fun iv cv wr => ∃ (k : Nat) (S : List Nat) (q : Nat), iv = .int .i64 (k : Nat) ∧ cv = .int .u64 (q : Nat) ∧ k ≤ N ∧ Hid (OwnW B S (.slice (some ⟨g, 0, none⟩) N cap) wr) ∧ Hid (TpT (wds n) x y k S q) ∧ Below B w wr) (fun iv _ _ => N - (intOf iv).toNat)
  case atStart => exact ⟨0, wds n, y, rfl, rfl, Nat.zero_le _, HO0, HST, Below.refl _ _⟩
  case round =>
   obtain ⟨k, S, q, rfl, rfl, hk, HO, HT, hbw⟩ := hrel
   by_cases hlt : k < N
   ·have hkl : k < (wds n).length := by rw [HN.out]; exact hlt
    have hnx := HT.out.next HWS.out HX.out hkl
    obtain ⟨hcell, hfz⟩ := HO.out.cell k (by rw [HT.out.len]; exact hkl)
    rw [HT.out.far k (Nat.le_refl _)] at hcell
    obtain ⟨l1, l2⟩ := tpC_lt (k := k) HWS.out HX.out HT.out.low
    have ul := HWS.out.getD k
    have ql := HT.out.low
    have et : tpC (wds n) x k q = q + (wds n).getD k 0 * x := rfl
    obtain ⟨t, ht⟩ : ∃ t, tpC (wds n) x k q = t := ⟨_, rfl⟩
    obtain ⟨u, hu⟩ : ∃ u, (wds n).getD k 0 = u := ⟨_, rfl⟩
    rw [ht] at hnx l2 et
    rw [hu] at hcell l1 ul et
    have HOS := Lib.hid (HO.out.set k (t % 4294967296))
    have HNX := Lib.hid hnx
    have k1 : IntKind.u64.wrap (u : Int) = (u : Int) := IntWalk.u64_in _ (by omega)
    have k2 : IntKind.u64.wrap ((u : Int) * (x : Int)) = (u : Int) * (x : Int) := IntWalk.u64_in _ (by
     have : ((u * x : Nat) : Int) = (u : Int) * (x : Int) := Int.natCast_mul u x
     omega)
    have k3 : IntKind.u64.wrap ((q : Int) + (u : Int) * (x : Int)) = (t : Int) := by
     have : ((u * x : Nat) : Int) = (u : Int) * (x : Int) := Int.natCast_mul u x
     rw [IntWalk.u64_in _ (by omega)]
     omega
    have hk1 : (k : Int) < (N : Int) := by omega
    rw [show ((t % 4294967296 : Nat) : Int) = (t : Int) % 4294967296 by omega] at HOS
    clear hkl hnx l1 l2 ul ql et ht hu
    go_wp2
    go_roundw
    case rel => exact ⟨k + 1, _, t / 4294967296, by go_num, by go_num, by omega, HOS, HNX, hbw.setCell hBg _⟩
    case measure => simp [intOf]; omega
   ·have hkN : k = N := by omega
    have hT2 : TpT (wds n) x y (wds n).length S q := by rw [HN.out, ← hkN]; exact HT.out
    have HF := Lib.hid (hT2.fin HX0.out)
    have hql := HT.out.low
    have hSl := HT.out.len
    have hSW := HT.out.ws
    by_cases hq0 : q = 0
    ·rw [if_pos hq0] at HF
     have b0 : ((q : Int) == 0) = true := by rw [hq0]; rfl
     clear hT2 hql hSl hSW hq0 hkN
     go_wp2
     go_ret
     exact ⟨_, rfl, by rw [← HF.out]; exact HO.out, hbw⟩
    ·rw [if_neg hq0] at HF
     have b0 : ((q : Int) == 0) = false := by simp; omega
     have k1 : IntKind.u32.wrap (q : Int) = (q : Int) := IntWalk.u32_in _ (by omega)
     have HSL := Lib.hid (show (N + 1) * 4 ≤ 140737488355328 ∧ N + 1 ≤ maxLen ∧ S.length = N from by unfold maxLen; rw [hSl, HN.out]; omega)
     have hbs := hbw.size
     have hon : wr.ownsRow B 107 1 (.slice (some ⟨g, 0, none⟩) N cap) N (S.map fun u => Value.int .u32 (u : Nat)) := by
      have := HO.out
      unfold OwnW at this
      rw [HSL.out.2.2] at this
      exact this
     have HON := Lib.hid hon
     clear hT2 hql hSl hSW hq0 hkN hon
     go_wp2_with (at_builtin; refine wpList_append_own _ rfl _ _ 117 rfl B 107 i0 (.int .u32 0) 1 4 Tryz.underlying117 hi hz0 hz1 hz2 rfl (by decide) _ _ _ rfl (World.ownsRow.alloc (w := wr) HON.out _) ⟨wr.heap.size, 0, none⟩ 1 1 [.int .u32 (q : Nat)] rfl rfl ?c1 ?c2 ?c3 ?c4 ?c5 ?_)
     case c1 => exact (cell_one_new _ _ _)
     case c2 => simp [Value.oneCell']
     case c3 => exact HSL.out.2.1
     case c4 => exact HSL.out.1
     case c5 => simp; omega
     intro v' w2 hown hgr _
     rw [← HSL.out.2.2] at hown
     have HO2 := Lib.hid (OwnW.snoc hown)
     have hbb : Below B w w2 := (hbw.alloc (by omega) _).grown hgr (by simp; omega) (fun j hj => (World.ownsRow.lt HO.out j hj).1)
     clear hown hgr
     go_wp2
     go_ret
     exact ⟨_, rfl, by rw [← HF.out]; exact HO2.out, hbb⟩
end Go.Proofs.YtjmplgbhjpldbaaGreatDoor
namespace Go.Proofs.YtjmplgbhjpldbaaGreatDoor
open Go.RowKit
theorem OwnW.below {B : Nat} {l : List Nat} {v : Value} {w w' : World} (h : OwnW B l v w) (hb : Below w.heap.size w w') : OwnW B l v w' := by
 refine World.ownsRow.kept (row := none) h ⟨hb.os, hb.tape, hb.output, hb.size, fun k hk _ => hb.block k hk⟩ ?_
 cases v.ownBlock <;> simp
theorem lng_le' {v : Nat} (h : lngB v = false) : (wds v).length ≤ 1024 := by
 unfold lngB at h
 have := of_decide_eq_false h
 omega
theorem lng_mono' {v u : Nat} (h : u ≤ v) (hu : lngB u = true) : lngB v = true := by
 unfold lngB at hu ⊢
 have h1 := of_decide_eq_true hu
 have h2 := wds_len_lt (n := u) (k := (wds v).length) (Nat.lt_of_le_of_lt h (wds_lt v))
 exact decide_eq_true (by omega)
theorem sum_len_max' (v u : Nat) : (wds (v + u)).length ≤ max (wds v).length (wds u).length + 1 := by
 refine wds_len_lt ?_
 have h1 := wds_lt v
 have h2 := wds_lt u
 have h3 : 4294967296 ^ (wds v).length ≤ 4294967296 ^ max (wds v).length (wds u).length := Nat.pow_le_pow_right (by omega) (by omega)
 have h4 : 4294967296 ^ (wds u).length ≤ 4294967296 ^ max (wds v).length (wds u).length := Nat.pow_le_pow_right (by omega) (by omega)
 have := pow_twice (max (wds v).length (wds u).length)
 omega
theorem prod_len_sum' (v u : Nat) : (wds (v * u)).length ≤ (wds v).length + (wds u).length := by
 refine wds_len_lt ?_
 rw [Nat.pow_add]
 exact Nat.mul_lt_mul'' (wds_lt v) (wds_lt u)
def sv (r : Nat) (s : ByteArray) : Nat := pv r (fun i => dgt (btn s i)) s.size
structure Rest (s : ByteArray) (o : Nat) (t : ByteArray) : Prop where
 le : o ≤ s.size
 size : t.size = s.size - o
 byte : ∀ i, i < t.size → btn t i = btn s (o + i)
theorem btn_extract (t : ByteArray) (a b i : Nat) (hi : i < b - a) (hb : b ≤ t.size) : btn (t.extract a b) i = btn t (a + i) := by
 have h1 : i < (t.extract a b).size := by rw [ByteArray.size_extract]; omega
 rw [← btn_eq _ i h1, ← btn_eq t (a + i) (by omega), ByteArray.getElem_extract]
theorem Rest.all (s : ByteArray) : Rest s 0 s := ⟨Nat.zero_le _, rfl, fun i _ => by rw [Nat.zero_add]⟩
theorem Rest.next {s t : ByteArray} {o m : Nat} (h : Rest s o t) (hm : m ≤ t.size) : Rest s (o + m) (t.extract m t.size) :=
 ⟨by have := h.le; have := h.size; omega, by rw [ByteArray.size_extract, h.size]; omega, fun i hi => by
  have h1 : i < t.size - m := by rw [ByteArray.size_extract] at hi; omega
  rw [btn_extract t m t.size i h1 (Nat.le_refl _), h.byte _ (by omega), Nat.add_assoc]⟩
def strLen : Value → Nat
 | .string s => s.size
 | _ => 0
set_option maxRecDepth 100000 in
set_option maxHeartbeats 1000000 in
theorem parse_ok (s : ByteArray) (r : Nat) (w : World) (hs : s.size ≤ 4611686018427387903) (h2 : 2 ≤ r) (h36 : r ≤ 36) (hd : adB r s = true) :
  Cp 120 #[.string s, .int .i64 r] w (NatPost (sv r s) w) := by
 have c1 := allDigits_any s r w hs h36
 have C2 := Lib.hid (fun W => group_any r W h2 h36)
 rw [hd] at c1
 have hdd : ∀ i, i < s.size → dgt (btn s i) < r := by
  unfold adB at hd
  exact of_decide_eq_true (Bool.and_eq_true _ _ ▸ hd : _ ∧ _).2
 have HD := Lib.hid hdd
 have H2 := Lib.hid h2
 have H36 := Lib.hid h36
 have hr1 : ¬ (r : Int) < 2 := by omega
 have hr2 : ¬ (36 : Int) < (r : Int) := by omega
 have hs1 : (s.size : Int) ≤ 4611686018427387903 := by omega
 clear hd hdd hs h2 h36
 go_enter Tryz.func120, Tryz.ntmps120
 go_wp2_with fail
 refine c1.mono ?_
 rintro e w1 ⟨rfl, rfl⟩
 go_wp2_with fail
 refine (C2.out _).mono ?_
 rintro e w1 ⟨⟨c, p, rfl, hp, hc1, hc2, hpl⟩, rfl⟩
 have HP := Lib.hid hp
 have HPL := Lib.hid hpl
 have HC1 := Lib.hid hc1
 have hc0 : (c : Int) ≤ 32 := by omega
 clear hp hpl hc1 hc2 c1 C2
 go_wp2
 go_loopw [0, 8] (fun tv av wr => ∃ (t : ByteArray) (o : Nat), tv = .string t ∧ Hid (Rest s o t) ∧ Hid (OwnW w.heap.size (wds (pv r (fun i => dgt (btn s i)) o)) av wr) ∧ Hid (lngB (pv r (fun i => dgt (btn s i)) o) = false) ∧ Below w.heap.size w wr) (fun tv _ _ => strLen tv)
 case atStart => exact ⟨s, 0, rfl, Lib.hid (Rest.all s), Lib.hid (OwnW.nil _ _), Lib.hid (lng_small (by simp [pv])), Below.refl _ _⟩
 case round =>
  obtain ⟨t, o, rfl, HR, HO, HL, hbw⟩ := hrel
  obtain ⟨V, hV⟩ : ∃ V, pv r (fun i => dgt (btn s i)) o = V := ⟨_, rfl⟩
  rw [hV] at HO HL
  have HV := Lib.hid hV
  have hle := lng_le' HL.out
  obtain ⟨A0, c0, rfl, hc0', hr0⟩ := HO.out.sl (wds_ws V)
  obtain ⟨L0, hL0⟩ : ∃ L, (wds V).length = L := ⟨_, rfl⟩
  have hts : (t.size : Int) ≤ 4611686018427387903 := by have := HR.out.size; omega
  by_cases h0 : t.size = 0
  ·have C1 := Lib.hid (answer_any A0 L0 c0 (wds V) wr hL0 (by omega) (by omega) hr0)
   rw [wds_val] at C1
   have HFV := Lib.hid (show V = sv r s from by
    have h1 := HR.out.size
    have h2 := HR.out.le
    rw [← HV.out]; unfold sv; congr 1; omega)
   have HL0 := Lib.hid hL0
   rw [hL0]
   have b0 : ¬ (0 : Int) < (t.size : Int) := by omega
   clear hV hle hc0' hr0 hL0 h0
   go_wp2_with fail
   refine C1.out.mono ?_
   rintro e w2 h
   have h2 := NatPost.from_ hbw h
   rw [HFV.out] at h2
   obtain ⟨A2, n2, c2, k2, rfl, h3, h4⟩ := h2
   have H3 := Lib.hid h3
   have H4 := Lib.hid h4
   clear h h3 h4 C1
   go_wp2
   go_ret2
   exact ⟨A2, n2, c2, k2, rfl, H3.out, H4.out⟩
  ·obtain ⟨m, hm⟩ : ∃ m, min c t.size = m := ⟨_, rfl⟩
   have hc1 := HC1.out
   have hm0 : 0 < m := by omega
   have hmt : m ≤ t.size := by omega
   have hmc : (m = c ∧ (c : Int) ≤ (t.size : Int)) ∨ (m = t.size ∧ ¬ (c : Int) ≤ (t.size : Int)) := by omega
   have hRn := HR.out.next hmt
   have hsz : (t.extract 0 m).size = m := by rw [ByteArray.size_extract]; omega
   have hby : ∀ i, i < m → btn (t.extract 0 m) i = btn s (o + i) := fun i hi => by
    rw [btn_extract t 0 m i (by omega) hmt, Nat.zero_add]; exact HR.out.byte i (by omega)
   have hom : o + m ≤ s.size := hRn.le
   have hpm : r ^ m < 4294967296 := by
    have h1 : r ^ m ≤ r ^ c := Nat.pow_le_pow_right (by have := H2.out; omega) (by omega)
    have h2 := HPL.out
    rw [HP.out] at h2
    omega
   have hpm0 : 0 < r ^ m := Nat.pow_pos (by have := H2.out; omega)
   have hpv : pv r (fun i => dgt (btn (t.extract 0 m) i)) m = pv r (fun i => dgt (btn s (o + i))) m := pv_congr (fun i hi => by rw [hby i hi])
   have C1 := Lib.hid (fun W => show Cp 142 #[.string (t.extract 0 m), .int .i64 r] W fun e w' => e = .returned (.tuple #[.int .u32 (pv r (fun i => dgt (btn s (o + i))) m : Nat), .int .u32 (r ^ m : Nat)]) ∧ W = w' from by
    have := small_any (t.extract 0 m) r W H36.out H2.out (by rw [hsz]; exact hpm) (fun i hi => by rw [hsz] at hi; rw [hby i hi]; exact HD.out _ (by omega))
    rw [hsz, hpv] at this
    exact this)
   have hyl : pv r (fun i => dgt (btn s (o + i))) m < 4294967296 := Nat.lt_trans (pv_lt (fun i hi => HD.out _ (by omega))) hpm
   have hadd := pv_add r (fun i => dgt (btn s i)) o m
   rw [hV] at hadd
   obtain ⟨x, hx⟩ : ∃ x, r ^ m = x := ⟨_, rfl⟩
   obtain ⟨y, hy⟩ : ∃ y, pv r (fun i => dgt (btn s (o + i))) m = y := ⟨_, rfl⟩
   rw [hx] at C1 hpm hpm0 hadd
   rw [hy] at C1 hyl hadd
   have C2 := Lib.hid (timesPlus_any w.heap.size (.slice A0 L0 c0) V x y wr (by have := HO.out; rw [hL0] at this; exact this) hbw.size hle hpm hpm0 hyl)
   obtain ⟨V2, hV2⟩ : ∃ V2, V * x + y = V2 := ⟨_, rfl⟩
   rw [hV2] at C2 hadd
   have HV2 := Lib.hid hadd
   have l1 : (wds V2).length ≤ 1026 := by
    have h1 := prod_len_sum' V x
    have h2 := sum_len_max' (V * x) y
    have h3 : (wds x).length ≤ 1 := wds_len_lt (by omega)
    have h4 : (wds y).length ≤ 1 := wds_len_lt (by omega)
    rw [hV2] at h2
    omega
   have HLE2 := Lib.hid l1
   have HRN := Lib.hid hRn
   have HMONO := Lib.hid (show V2 ≤ sv r s from by rw [← hadd]; exact pv_mono (by have := H2.out; omega) hom)
   have HM0 := Lib.hid hm0
   have hmt1 : (m : Int) ≤ (t.size : Int) := by omega
   have b0 : (0 : Int) < (t.size : Int) := by omega
   rw [hL0]
   clear hV hle hc0' hr0 hL0 h0 hm hc1 hm0 hmt hRn hsz hby hom hpm hpm0 hpv hyl hadd hx hy hV2 l1
   rcases hmc with ⟨rfl, a1⟩ | ⟨rfl, a1⟩
   ·have e0 : min (m : Int) (t.size : Int) = (m : Int) := Int.min_eq_left a1
    go_wp2_with fail
    refine (C1.out _).mono ?_
    rintro e w' ⟨rfl, rfl⟩
    go_wp2_with fail
    refine C2.out.mono ?_
    rintro e w2 ⟨v2, rfl, ho2, hb2⟩
    have hbw2 : Below w.heap.size w w2 := hbw.trans hb2
    obtain ⟨A2, c2, rfl, hc2, hr2⟩ := ho2.sl (wds_ws _)
    obtain ⟨L2, hL2⟩ : ∃ L, (wds V2).length = L := ⟨_, rfl⟩
    rw [hL2] at hc2 ho2 ⊢
    have C3 := Lib.hid (tooOne_any A2 L2 c2 (wds V2) w2 hL2 hc2 (by have := HLE2.out; omega) hr2)
    rw [wds_val] at C3
    have HO2 := Lib.hid ho2
    have hp : Below w2.heap.size w2 (lone w2 (.slice A2 L2 c2)) := (Below.refl _ _).alloc (Nat.le_refl _) _
    have HB2 := Lib.hid (below_le hbw2 hp)
    have HO3 := Lib.hid (ho2.below hp)
    have HL2 := Lib.hid hL2
    clear ho2 hb2 hbw2 hc2 hr2 hL2 hp C1 C2
    cases hl : lngB V2
    ·rw [hl] at C3
     have HLN := Lib.hid hl
     clear hl
     go_wp2_with fail
     refine C3.out.mono ?_
     rintro e w3 ⟨rfl, rfl⟩
     go_wp2
     exact ⟨⟨_, _, rfl, HRN, Lib.hid (by rw [HV2.out]; exact HO3.out), Lib.hid (by rw [HV2.out]; exact HLN.out), HB2.out⟩, by
      have h1 := HM0.out
      have h2 := HRN.out.size
      have h3 := HRN.out.le
      have h4 := HR.out.size
      simp only [strLen]
      omega⟩
    ·rw [hl] at C3
     have HLN := Lib.hid (lng_mono' HMONO.out hl)
     clear hl
     go_wp2_with fail
     refine C3.out.mono ?_
     rintro e w3 ⟨rfl, rfl⟩
     go_wp2
     go_ret2
     exact NatPost.long HLN.out HB2.out
   ·have e0 : min (c : Int) (t.size : Int) = (t.size : Int) := Int.min_eq_right (by omega)
    rw [show t.extract 0 t.size = t from by simp] at C1
    rw [show t.extract t.size t.size = ByteArray.empty from by simp] at HRN
    go_wp2_with fail
    refine (C1.out _).mono ?_
    rintro e w' ⟨rfl, rfl⟩
    go_wp2_with fail
    refine C2.out.mono ?_
    rintro e w2 ⟨v2, rfl, ho2, hb2⟩
    have hbw2 : Below w.heap.size w w2 := hbw.trans hb2
    obtain ⟨A2, c2, rfl, hc2, hr2⟩ := ho2.sl (wds_ws _)
    obtain ⟨L2, hL2⟩ : ∃ L, (wds V2).length = L := ⟨_, rfl⟩
    rw [hL2] at hc2 ho2 ⊢
    have C3 := Lib.hid (tooOne_any A2 L2 c2 (wds V2) w2 hL2 hc2 (by have := HLE2.out; omega) hr2)
    rw [wds_val] at C3
    have HO2 := Lib.hid ho2
    have hp : Below w2.heap.size w2 (lone w2 (.slice A2 L2 c2)) := (Below.refl _ _).alloc (Nat.le_refl _) _
    have HB2 := Lib.hid (below_le hbw2 hp)
    have HO3 := Lib.hid (ho2.below hp)
    have HL2 := Lib.hid hL2
    clear ho2 hb2 hbw2 hc2 hr2 hL2 hp C1 C2
    cases hl : lngB V2
    ·rw [hl] at C3
     have HLN := Lib.hid hl
     clear hl
     go_wp2_with fail
     refine C3.out.mono ?_
     rintro e w3 ⟨rfl, rfl⟩
     go_wp2
     exact ⟨⟨_, _, rfl, HRN, Lib.hid (by rw [HV2.out]; exact HO3.out), Lib.hid (by rw [HV2.out]; exact HLN.out), HB2.out⟩, by
      have h1 := HM0.out
      have h2 := HRN.out.size
      have h3 := HRN.out.le
      have h4 := HR.out.size
      simp only [strLen]
      omega⟩
    ·rw [hl] at C3
     have HLN := Lib.hid (lng_mono' HMONO.out hl)
     clear hl
     go_wp2_with fail
     refine C3.out.mono ?_
     rintro e w3 ⟨rfl, rfl⟩
     go_wp2
     go_ret2
     exact NatPost.long HLN.out HB2.out

end Go.Proofs.YtjmplgbhjpldbaaGreatDoor
namespace Go.Proofs.YtjmplgbhjpldbaaGreatDoor
open Go.RowKit
theorem alloc_below {w W : World} (o : Obj) (h : Below w.heap.size w W) : Below w.heap.size w (W.alloc o) := h.alloc h.size _
end Go.Proofs.YtjmplgbhjpldbaaGreatDoor
namespace Go.Proofs.YtjmplgbhjpldbaaGreatDoor
open Go.RowKit
end Go.Proofs.YtjmplgbhjpldbaaGreatDoor
namespace Go.Proofs.YtjmplgbhjpldbaaGreatDoor
open Go.RowKit
end Go.Proofs.YtjmplgbhjpldbaaGreatDoor
namespace Go.Proofs.YtjmplgbhjpldbaaGreatDoor
open Go.RowKit
end Go.Proofs.YtjmplgbhjpldbaaGreatDoor
namespace Go.Proofs.YtjmplgbhjpldbaaGreatDoor
open Go.RowKit
end Go.Proofs.YtjmplgbhjpldbaaGreatDoor
namespace Go.Proofs.YtjmplgbhjpldbaaGreatDoor
def wdsT : List Nat := [32, 98, 114, 101, 97, 107, 32, 99, 97, 115, 101, 32, 99, 97, 116, 99, 104, 32, 99, 108, 97, 115, 115, 32, 99, 111, 110, 115, 116, 32, 99, 111, 110, 116, 105, 110, 117, 101, 32, 100, 101, 98, 117, 103, 103, 101, 114, 32, 100, 101, 102, 97, 117, 108, 116, 32, 100, 101, 108, 101, 116, 101, 32, 100, 111, 32, 101, 108, 115, 101, 32, 101, 110, 117, 109, 32, 101, 120, 112, 111, 114, 116, 32, 101, 120, 116, 101, 110, 100, 115, 32, 102, 97, 108, 115, 101, 32, 102, 105, 110, 97, 108, 108, 121, 32, 102, 111, 114, 32, 102, 117, 110, 99, 116, 105, 111, 110, 32, 105, 102, 32, 105, 109, 112, 108, 101, 109, 101, 110, 116, 115, 32, 105, 109, 112, 111, 114, 116, 32, 105, 110, 32, 105, 110, 115, 116, 97, 110, 99, 101, 111, 102, 32, 105, 110, 116, 101, 114, 102, 97, 99, 101, 32, 108, 101, 116, 32, 110, 101, 119, 32, 110, 117, 108, 108, 32, 112, 97, 99, 107, 97, 103, 101, 32, 112, 114, 105, 118, 97, 116, 101, 32, 112, 114, 111, 116, 101, 99, 116, 101, 100, 32, 112, 117, 98, 108, 105, 99, 32, 114, 101, 116, 117, 114, 110, 32, 115, 116, 97, 116, 105, 99, 32, 115, 117, 112, 101, 114, 32, 115, 119, 105, 116, 99, 104, 32, 116, 104, 105, 115, 32, 116, 104, 114, 111, 119, 32, 116, 114, 117, 101, 32, 116, 114, 121, 32, 116, 121, 112, 101, 111, 102, 32, 118, 97, 114, 32, 118, 111, 105, 100, 32, 119, 104, 105, 108, 101, 32, 119, 105, 116, 104, 32, 121, 105, 101, 108, 100, 32]
def partsF : Nat → List Nat → List (List Nat)
 | 0, _ => []
 | f + 1, l => match l.takeWhile (· != 32) with
  | [] => match l with
   | [] => []
   | _ :: r => partsF f r
  | c :: t => (c :: t) :: partsF f (l.dropWhile (· != 32))
def wordsL : List (List Nat) := partsF 700 wdsT
def resB (u : List Nat) : Bool := wordsL.contains u
def marksL : List (List Nat) := [[62, 62, 62, 61], [61, 61, 61], [33, 61, 61], [62, 62, 62], [60, 60, 61], [62, 62, 61], [60, 61], [62, 61], [61, 61], [33, 61], [43, 43], [45, 45], [60, 60], [62, 62], [38, 38], [124, 124], [43, 61], [45, 61], [42, 61], [37, 61], [38, 61], [124, 61], [94, 61], [47, 61], [123], [125], [40], [41], [91], [93], [46], [59], [44], [60], [62], [43], [45], [42], [37], [38], [124], [94], [33], [126], [63], [58], [61], [47]]
def markL (l : List Nat) : Option (List Nat) := marksL.find? fun t => t.isPrefixOf l
def isMark (t : List Nat) : Bool := marksL.contains t
theorem marks_sorted : marksL.Pairwise fun a b => b.length ≤ a.length := by decide +kernel
theorem marks_len : ∀ t ∈ marksL, 1 ≤ t.length ∧ t.length ≤ 4 := by decide +kernel
theorem find_first {q : List Nat → Bool} : ∀ {M : List (List Nat)} {t : List Nat}, M.Pairwise (fun a b => b.length ≤ a.length) → M.find? q = some t → t ∈ M ∧ q t = true ∧ ∀ s ∈ M, q s = true → s.length ≤ t.length
 | [], _, _, h => by cases h
 | a :: M, t, hp, h => by
  rw [List.find?_cons] at h
  cases hq : q a
  ·rw [hq] at h
   obtain ⟨h1, h2, h3⟩ := find_first (List.pairwise_cons.1 hp).2 h
   refine ⟨List.mem_cons_of_mem _ h1, h2, fun s hs hqs => ?_⟩
   rcases List.mem_cons.1 hs with rfl | hs
   ·rw [hq] at hqs
    cases hqs
   ·exact h3 s hs hqs
  ·rw [hq] at h
   cases h
   refine ⟨List.mem_cons_self, hq, fun s hs _ => ?_⟩
   rcases List.mem_cons.1 hs with rfl | hs
   ·exact Nat.le_refl _
   ·exact (List.pairwise_cons.1 hp).1 s hs
theorem mark_some {l t : List Nat} (h : markL l = some t) : 1 ≤ t.length ∧ t.length ≤ 4 ∧ l.take t.length = t ∧ isMark t = true ∧ ∀ k, t.length ≤ k → k ≤ 4 → isMark (l.take k) = true → l.take k = t := by
 obtain ⟨h1, h2, h3⟩ := find_first marks_sorted h
 obtain ⟨h4, h5⟩ := marks_len t h1
 obtain ⟨r, hr⟩ := List.isPrefixOf_iff_prefix.1 h2
 refine ⟨h4, h5, by rw [← hr, List.take_left], List.contains_iff_mem.2 h1, fun k k1 k2 hk => ?_⟩
 have hm : l.take k ∈ marksL := List.contains_iff_mem.1 hk
 have hle := h3 _ hm (List.isPrefixOf_iff_prefix.2 (List.take_prefix k l))
 have hlen : t.length ≤ l.length := by rw [← hr, List.length_append]; omega
 rw [List.length_take] at hle
 rcases (show k = t.length ∨ l.length = t.length by omega) with e | e
 ·rw [e, ← hr, List.take_left]
 ·have : r = [] := by
   have := congrArg List.length hr
   rw [List.length_append] at this
   exact List.eq_nil_of_length_eq_zero (by omega)
  rw [List.take_of_length_le (by omega), ← hr, this, List.append_nil]
theorem mark_none {l : List Nat} (h : markL l = none) (k : Nat) : isMark (l.take k) = false := by
 cases hm : isMark (l.take k)
 ·rfl
 ·have h1 : l.take k ∈ marksL := List.contains_iff_mem.1 hm
  have h2 := List.find?_eq_none.1 h _ h1
  exact absurd (List.isPrefixOf_iff_prefix.2 (List.take_prefix k l)) h2


end Go.Proofs.YtjmplgbhjpldbaaGreatDoor
namespace Go.Proofs.YtjmplgbhjpldbaaGreatDoor
theorem rune_high {p : Nat} (h : 128 ≤ p) : ∃ b r, Lib.encodeRune (p : Int) = b :: r ∧ 128 ≤ b.toNat := by
 have low : ∀ x : Int, 128 ≤ x → x < 256 → 128 ≤ (x.toNat.toUInt8).toNat := by
  intro x h1 h2
  obtain ⟨n, rfl⟩ := Int.eq_ofNat_of_zero_le (show 0 ≤ x by omega)
  rw [Int.toNat_natCast]
  show 128 ≤ (UInt8.ofNat n).toNat
  rw [UInt8.toNat_ofNat']
  omega
 unfold Lib.encodeRune
 rcases Nat.lt_or_ge p 2048 with h1 | h1
 ·rw [Lib.encodeRuneZ_two (by omega) (by omega)]
  exact ⟨_, _, rfl, low _ (by omega) (by omega)⟩
 ·by_cases h2 : (2048 ≤ (p : Int) ∧ (p : Int) < 55296) ∨ (57343 < (p : Int) ∧ (p : Int) ≤ 65535)
  ·rw [Lib.encodeRuneZ_three h2]
   exact ⟨_, _, rfl, low _ (by omega) (by omega)⟩
  ·by_cases h3 : 65536 ≤ (p : Int) ∧ (p : Int) ≤ 1114111
   ·rw [Lib.encodeRuneZ_four h3.1 h3.2]
    exact ⟨_, _, rfl, low _ (by omega) (by omega)⟩
   ·rw [Lib.encodeRuneZ_bad (by omega)]
    exact ⟨_, _, rfl, low _ (by omega) (by omega)⟩
theorem rune_low {u : Nat} (h : u < 128) : Lib.encodeRune (u : Int) = [UInt8.ofNat u] := by
 unfold Lib.encodeRune
 rw [Lib.encodeRuneZ_one (by omega) (by omega)]
 show [(u : Int).toNat.toUInt8] = _
 rw [Int.toNat_natCast]
theorem drop_un (s : ByteArray) {i : Nat} (h : i < ln s) : (us s).drop i = un s i :: (us s).drop (i + 1) := by
 have hl : i < (us s).length := by rw [us_length]; exact h
 rw [List.drop_eq_getElem_cons hl, us_getElem s i hl]
theorem ofNat_inj8 {a b : Nat} (ha : a < 256) (hb : b < 256) (h : UInt8.ofNat a = UInt8.ofNat b) : a = b := by
 have := congrArg UInt8.toNat h
 rw [UInt8.toNat_ofNat', UInt8.toNat_ofNat'] at this
 omega
theorem enc_word (s : ByteArray) : ∀ (f i : Nat) (w : List Nat), (∀ c ∈ w, c < 128 ∧ c ≠ 92) → ln s ≤ i + f → (encF s f i = w.map UInt8.ofNat ↔ (us s).drop i = w)
 | 0, i, w, _, hf => by
  have hd : (us s).drop i = [] := List.drop_eq_nil_iff.2 (by rw [us_length]; omega)
  rw [hd]
  show [] = w.map UInt8.ofNat ↔ [] = w
  cases w <;> simp
 | f + 1, i, w, hw, hf => by
  rcases Nat.lt_or_ge i (ln s) with h | h
  ·have hdr := drop_un s h
   have bad : ∀ (b : UInt8) (r : List UInt8), (128 ≤ b.toNat ∨ b.toNat = 92) → ¬ b :: r = w.map UInt8.ofNat := by
    intro b r hb he
    cases w with
    | nil => cases he
    | cons c t =>
     obtain ⟨h1, h2⟩ := hw c (by simp)
     have h3 : b = UInt8.ofNat c := (List.cons.inj he).1
     rw [h3, UInt8.toNat_ofNat'] at hb
     omega
   have nob : 128 ≤ un s i → ¬ (us s).drop i = w := by
    intro hb he
    rw [hdr] at he
    have := hw (un s i) (by rw [← he]; simp)
    omega
   cases hp : prB s i
   ·rw [encF_one s f i h hp]
    unfold oneU
    by_cases hhl : (hiB (un s i) || loB (un s i)) = true
    ·have hb : 128 ≤ un s i := by
      unfold hiB loB at hhl
      simp only [Bool.or_eq_true, Bool.and_eq_true, decide_eq_true_eq] at hhl
      omega
     rw [if_pos hhl]
     constructor
     ·intro he
      exact absurd he (bad 92 _ (.inr rfl))
     ·intro he
      exact absurd he (nob hb)
    ·rw [if_neg hhl]
     rcases Nat.lt_or_ge (un s i) 128 with hu | hu
     ·rw [rune_low hu, hdr]
      show UInt8.ofNat (un s i) :: encF s f (i + 1) = _ ↔ _
      cases w with
      | nil => simp
      | cons c t =>
       have ih := enc_word s f (i + 1) t (fun d hd => hw d (by simp [hd])) (by omega)
       have hc := hw c (by simp)
       rw [List.map_cons, List.cons.injEq, List.cons.injEq, ih]
       constructor
       ·rintro ⟨h1, h2⟩
        exact ⟨ofNat_inj8 (by omega) (by omega) h1, h2⟩
       ·rintro ⟨h1, h2⟩
        exact ⟨by rw [h1], h2⟩
     ·obtain ⟨b, r, hb1, hb2⟩ := rune_high hu
      rw [hb1]
      constructor
      ·intro he
       exact absurd he (bad b _ (.inl hb2))
      ·intro he
       exact absurd he (nob hu)
   ·rw [encF_pair s f i h hp]
    obtain ⟨p1, p2, p3, p4, p5⟩ := prB_parts s i hp
    have hpp : 128 ≤ prP s i := by unfold prP; omega
    obtain ⟨b, r, hb1, hb2⟩ := rune_high hpp
    rw [hb1]
    constructor
    ·intro he
     exact absurd he (bad b _ (.inl hb2))
    ·intro he
     exact absurd he (nob (by omega))
  ·rw [encF_end s (f + 1) i (by omega)]
   have hd : (us s).drop i = [] := List.drop_eq_nil_iff.2 (by rw [us_length]; omega)
   rw [hd]
   cases w <;> simp
theorem encS_word (s : ByteArray) {w : List Nat} (hw : ∀ c ∈ w, c < 128 ∧ c ≠ 92) : encS s = w.map UInt8.ofNat ↔ us s = w := by
 have := enc_word s (ln s) 0 w hw (by omega)
 rw [List.drop_zero] at this
 exact this
theorem words_plain : ∀ w ∈ wordsL, ∀ c ∈ w, c < 128 ∧ c ≠ 92 := by decide +kernel
theorem marks_plain : ∀ w ∈ marksL, ∀ c ∈ w, c < 128 ∧ c ≠ 92 := by decide +kernel


end Go.Proofs.YtjmplgbhjpldbaaGreatDoor
namespace Go.Proofs.YtjmplgbhjpldbaaGreatDoor
open Go.RowKit
theorem and_hi (u : Nat) (hu : u < 65536) : bits BinOp.and IntKind.u16 (u : Int) 64512 = ((u / 1024 * 1024 : Nat) : Int) := by
 rw [show (64512 : Int) = ((64512 : Nat) : Int) from rfl, u16_and_nat _ _ hu (by omega), and_topE u hu]
theorem and_15 (u : Nat) (hu : u < 65536) : bits BinOp.and IntKind.u16 (u : Int) 15 = ((u % 16 : Nat) : Int) := by
 rw [show (15 : Int) = ((15 : Nat) : Int) from rfl, u16_and_nat _ _ hu (by omega), show (15 : Nat) = 2 ^ 4 - 1 from rfl, Nat.and_two_pow_sub_one_eq_mod u 4]
abbrev digs : ByteArray := { data := #[48, 49, 50, 51, 52, 53, 54, 55, 56, 57, 65, 66, 67, 68, 69, 70] }
theorem digs_at : ∀ k : Fin 16, (digs[k.val]'k.isLt).toNat = (hx k.val).toNat := by decide
theorem pairTest_hi (u : Nat) (hu : u < 65536) : ((bits BinOp.and IntKind.u16 (u : Int) 64512) == 55296) = hiB u := by
 rw [and_hi u hu, Bool.eq_iff_iff]
 simp [hiB]
 omega
theorem pairTest_lo (u : Nat) (hu : u < 65536) : ((bits BinOp.and IntKind.u16 (u : Int) 64512) == 56320) = loB u := by
 rw [and_hi u hu, Bool.eq_iff_iff]
 simp [loB]
 omega
set_option maxRecDepth 100000 in
set_option maxHeartbeats 1000000 in
theorem pair_any (s : ByteArray) (i : Nat) (w : World) (h : i < ln s) (hs : s.size ≤ maxLen) :
  Cp 68 #[.string s, .int .i64 i] w fun e w' => e = .returned (.bool (prB s i)) ∧ ∃ n, w' = w.drewN n := by
 have hl := ln_le s
 have hm : ((ln s : Nat) : Int) ≤ 4611686018427387903 := by unfold maxLen at hs; omega
 have hi : (i : Int) < (ln s : Int) := by omega
 have t1 := pairTest_hi (un s i) (un_lt s i)
 have t2 := pairTest_lo (un s (i + 1)) (un_lt s (i + 1))
 have HS := Lib.hid hs
 clear hs hl
 by_cases h1 : i + 1 < ln s
 ·have h1' : (i : Int) + 1 < (ln s : Int) := by omega
  have e1 : ((i : Int) + 1) = ((i + 1 : Nat) : Int) := by omega
  cases hA : hiB (un s i)
  ·rw [hA] at t1
   have HR := Lib.hid (show prB s i = false by simp [prB, hA])
   clear hA t2 e1
   go_enter Tryz.func68, Tryz.ntmps68
   go_wp2_with (first | (go_at_call 29; refine (len_any s _ HS.out).mono ?_; rintro e w' ⟨rfl, rfl⟩) | (go_at_call 66; refine (at_any s i _ h HS.out).mono ?_; rintro e w' ⟨rfl, n, rfl⟩))
   go_ret
   exact ⟨by rw [HR.out]; rfl, n, rfl⟩
  ·rw [hA] at t1
   have HR := Lib.hid (show prB s i = loB (un s (i + 1)) by simp [prB, hA, h1])
   have c2 : ∀ w, Cp 66 #[.string s, .int .i64 ((i : Int) + 1)] w fun e w' => e = .returned (.int .u16 (un s (i + 1))) ∧ ∃ n, w' = w.drewN n := fun w => by
    rw [e1]; exact at_any s (i + 1) w h1 HS.out
   clear hA e1
   go_enter Tryz.func68, Tryz.ntmps68
   go_wp2_with fail
   refine (len_any s _ HS.out).mono ?_
   rintro e w' ⟨rfl, rfl⟩
   go_wp2_with fail
   refine (at_any s i _ h HS.out).mono ?_
   rintro e w' ⟨rfl, n, rfl⟩
   go_wp2_with fail
   refine (c2 _).mono ?_
   rintro e w' ⟨rfl, n2, rfl⟩
   go_wp2
   go_ret
   exact ⟨by rw [HR.out]; rfl, n + n2, rfl⟩
 ·have h1' : ¬ ((i : Int) + 1 < (ln s : Int)) := by omega
  have HR := Lib.hid (show prB s i = false by simp [prB, h1])
  clear t1 t2
  go_enter Tryz.func68, Tryz.ntmps68
  go_wp2_with (first | (go_at_call 29; refine (len_any s _ HS.out).mono ?_; rintro e w' ⟨rfl, rfl⟩))
  go_ret
  exact ⟨by rw [HR.out]; rfl, 0, rfl⟩
theorem cells_one (l : List UInt8) (c : UInt8) : Lib.byteCells (l ++ [c]) = Lib.byteCells l ++ [Value.int .u8 c.toNat] := by
 rw [Lib.byteCells_append]; rfl
theorem digs_int (x : Nat) (h : (((x : Int) % 16).toNat) < digs.size) : ((digs[((x : Int) % 16).toNat]'h).toNat : Int) = ((hx (x % 16)).toNat : Int) := by
 have e : ((x : Int) % 16).toNat = x % 16 := by omega
 have := digs_at ⟨x % 16, Nat.mod_lt _ (by omega)⟩
 simp only [e]
 exact congrArg Nat.cast this
theorem esc_step (B : Nat) (l : List UInt8) (x : Nat) (w : World) (h : Bld B l w) (hlen : l.length + 1 ≤ 140737488355328) (hBw : B ≤ w.heap.size) (hk : (((x : Int) % 16).toNat) < digs.size) :
  Cp 91 #[.pointer (some ⟨B, 0, none⟩), .int .u8 ((digs[((x : Int) % 16).toNat]'hk).toNat)] w fun e w' => e = .returned .nilIface ∧ Bld B (l ++ [hx (x % 16)]) w' ∧ Below B w w' := by
 rw [digs_int x hk]
 refine (Tryz.Builder_WriteByte_k B B _ _ _ h (by rw [Lib.byteCells_length]; omega) hBw).mono ?_
 rintro e w' ⟨rfl, hb, bl, _⟩
 exact ⟨rfl, by rw [Bld, cells_one]; exact .inr hb, bl⟩
def EscRel (B : Nat) (l : List UInt8) (u : Nat) (w : World) (sh : Value) (wr : World) : Prop :=
 (sh = .int .i64 12 ∧ Bld B (l ++ [92, 117]) wr ∧ Below B w wr) ∨
 (sh = .int .i64 8 ∧ Bld B (l ++ [92, 117] ++ [hx (u / 4096 % 16)]) wr ∧ Below B w wr) ∨
 (sh = .int .i64 4 ∧ Bld B (l ++ [92, 117] ++ [hx (u / 4096 % 16)] ++ [hx (u / 256 % 16)]) wr ∧ Below B w wr) ∨
 (sh = .int .i64 0 ∧ Bld B (l ++ [92, 117] ++ [hx (u / 4096 % 16)] ++ [hx (u / 256 % 16)] ++ [hx (u / 16 % 16)]) wr ∧ Below B w wr) ∨
 (sh = .int .i64 (-4) ∧ Bld B (l ++ [92, 117] ++ [hx (u / 4096 % 16)] ++ [hx (u / 256 % 16)] ++ [hx (u / 16 % 16)] ++ [hx (u % 16)]) wr ∧ Below B w wr)
set_option maxRecDepth 100000 in
set_option maxHeartbeats 1000000 in
theorem writeEscape_any (B : Nat) (l : List UInt8) (u : Nat) (hu : u < 65536) (w : World) (h : Bld B l w) (hlen : l.length + 6 ≤ 140737488355328) (hBw : B ≤ w.heap.size) :
  Cp 69 #[.pointer (some ⟨B, 0, none⟩), .int .u16 u] w fun e w' => e = .returned (.tuple #[]) ∧ Bld B (l ++ esc u) w' ∧ Below B w w' := by
 have hs := Tryz.Builder_WriteString_k B B (Lib.byteCells l) { data := #[92, 117] } w h (by rw [Lib.byteCells_length]; show l.length + 2 ≤ _; omega) hBw
 have a1 : bits BinOp.and IntKind.u16 ((u : Int) / 4096) 15 = ((u : Int) / 4096) % 16 := and_15 (u / 4096) (by omega)
 have a2 : bits BinOp.and IntKind.u16 ((u : Int) / 256) 15 = ((u : Int) / 256) % 16 := and_15 (u / 256) (by omega)
 have a3 : bits BinOp.and IntKind.u16 ((u : Int) / 16) 15 = ((u : Int) / 16) % 16 := and_15 (u / 16) (by omega)
 have a4 : bits BinOp.and IntKind.u16 (u : Int) 15 = (u : Int) % 16 := and_15 u hu
 have H1 := Lib.hid hu
 have H2 := Lib.hid hlen
 clear hu hlen
 go_enter Tryz.func69, Tryz.ntmps69
 go_wp2_with fail
 refine hs.mono ?_
 rintro e w1 ⟨rfl, hb1, bl1, _⟩
 have hI1 : Bld B (l ++ [92, 117]) w1 := by rw [Bld, Lib.byteCells_append]; exact .inr hb1
 clear hs hb1
 go_wp2
 go_loopw [4] (fun sh wr => EscRel B l u w sh wr) (fun sh _ => (intOf sh + 4).toNat)
 case atStart => exact .inl ⟨rfl, hI1, bl1⟩
 case round =>
  rcases hrel with ⟨rfl, hI, hb⟩ | ⟨rfl, hI, hb⟩ | ⟨rfl, hI, hb⟩ | ⟨rfl, hI, hb⟩ | ⟨rfl, hI, hb⟩
  ·go_wp2_with (go_at_call 91; refine (esc_step B _ (u / 4096) _ hI (by have := H2.out; simp; omega) (Nat.le_trans hBw hb.size) _).mono ?_; rintro e w2 ⟨rfl, hI2, hb2⟩)
   go_roundw
   case rel => exact .inr (.inl ⟨rfl, hI2, hb.trans hb2⟩)
   case measure => simp [intOf]
  ·go_wp2_with (go_at_call 91; refine (esc_step B _ (u / 256) _ hI (by have := H2.out; simp; omega) (Nat.le_trans hBw hb.size) _).mono ?_; rintro e w2 ⟨rfl, hI2, hb2⟩)
   go_roundw
   case rel => exact .inr (.inr (.inl ⟨rfl, hI2, hb.trans hb2⟩))
   case measure => simp [intOf]
  ·go_wp2_with (go_at_call 91; refine (esc_step B _ (u / 16) _ hI (by have := H2.out; simp; omega) (Nat.le_trans hBw hb.size) _).mono ?_; rintro e w2 ⟨rfl, hI2, hb2⟩)
   go_roundw
   case rel => exact .inr (.inr (.inr (.inl ⟨rfl, hI2, hb.trans hb2⟩)))
   case measure => simp [intOf]
  ·go_wp2_with (go_at_call 91; refine (esc_step B _ u _ hI (by have := H2.out; simp; omega) (Nat.le_trans hBw hb.size) _).mono ?_; rintro e w2 ⟨rfl, hI2, hb2⟩)
   go_roundw
   case rel => exact .inr (.inr (.inr (.inr ⟨rfl, hI2, hb.trans hb2⟩)))
   case measure => simp [intOf]
  ·have he : l ++ esc u = l ++ [92, 117] ++ [hx (u / 4096 % 16)] ++ [hx (u / 256 % 16)] ++ [hx (u / 16 % 16)] ++ [hx (u % 16)] := by
    have := H1.out
    simp [esc, show u / 4096 % 16 = u / 4096 by omega]
   have HE := Lib.hid he
   clear he
   go_wp2
   go_end0
   exact ⟨rfl, by rw [HE.out]; exact hI, hb⟩


end Go.Proofs.YtjmplgbhjpldbaaGreatDoor
namespace Go.Proofs.YtjmplgbhjpldbaaGreatDoor
open Go.RowKit
theorem cells_rune (l : List UInt8) (r : Int) : Lib.byteCells (l ++ Lib.encodeRune r) = Lib.byteCells l ++ Lib.runeCells r := by
 rw [Lib.byteCells_append, Lib.byteCells_encodeRune]
theorem writeRune_any (B : Nat) (l : List UInt8) (r : Int) (h0 : 0 ≤ r) (h1 : r ≤ 1114111) (w : World) (h : Bld B l w) (hlen : l.length + 4 ≤ 140737488355328) (hBw : B ≤ w.heap.size) :
  Cp 67 #[.pointer (some ⟨B, 0, none⟩), .int .i32 r] w fun e w' => e = .returned (.tuple #[.int .i64 (Lib.runeCells r).length, .nilIface]) ∧ Bld B (l ++ Lib.encodeRune r) w' ∧ Below B w w' := by
 refine (Tryz.Builder_WriteRune_k B B _ r (by omega) (by omega) _ h (by rw [Lib.byteCells_length]; omega) hBw).mono ?_
 rintro e w' ⟨rfl, hb, bl, _⟩
 exact ⟨rfl, by rw [Bld, cells_rune]; exact .inr hb, bl⟩
theorem bld_drewN {B : Nat} {l : List UInt8} {w : World} (h : Bld B l w) (n : Nat) : Bld B l (w.drewN n) := h
set_option maxRecDepth 100000 in
set_option maxHeartbeats 2000000 in
theorem encode_any (s : ByteArray) (w : World) (hs : s.size ≤ 17592186044416) :
  Ct 40 #[.string s] (.string ⟨(encS s).toArray⟩) w := by
 have hl := ln_le s
 have hm : ((ln s : Nat) : Int) ≤ 8796093022208 := by omega
 have hs63 : s.size ≤ maxLen := by unfold maxLen; omega
 have HS := Lib.hid hs
 have HL := Lib.hid hl
 have H63 := Lib.hid hs63
 clear hs hl hs63
 have hg : Cp 63 #[.pointer (some ⟨w.heap.size, 0, none⟩), .int .i64 (ln s)] (w.alloc (.cells #[.pointer none, .slice none 0 0] 70)) fun e w' => e = .returned (.tuple #[]) ∧ (Lib.BuilderAt 70 5 w.heap.size w.heap.size (.pointer (some ⟨w.heap.size, 0, none⟩)) [] w' ∧ Below w.heap.size (w.alloc (.cells #[.pointer none, .slice none 0 0] 70)) w') :=
  Tryz.Builder_Grow_fresh w.heap.size w.heap.size (ln s) _ (Nat.le_refl _) (alloc_new w _) (by simp) (by have := HS.out; have := HL.out; omega)
 go_enter Tryz.func40, Tryz.ntmps40
 go_wp2_with fail
 refine (len_any s _ H63.out).mono ?_
 rintro e w' ⟨rfl, rfl⟩
 go_wp2_with fail
 refine hg.mono ?_
 rintro e w1 ⟨rfl, hb1, bl1⟩
 have hbl : Below w.heap.size w w1 := ((Below.refl w.heap.size w).alloc (Nat.le_refl _) _).trans bl1
 clear hg
 go_wp2
 go_loopw [4] (fun i wr => ∃ (k fuel : Nat) (acc : List UInt8), i = .int .i64 k ∧ k ≤ ln s ∧ Bld w.heap.size acc wr ∧ Below w.heap.size w wr ∧ acc ++ encF s fuel k = encS s ∧ ln s ≤ k + fuel ∧ acc.length ≤ 6 * k) (fun i _ => ln s - (intOf i).toNat)
 case atStart => exact ⟨0, ln s, [], rfl, Nat.zero_le _, Lib.IsBuilderF.of (.inr hb1), hbl, rfl, by omega, by simp⟩
 case round =>
  obtain ⟨k, fuel, acc, rfl, hk, hI, hbw, hacc, hfu, hal⟩ := hrel
  have HA := Lib.hid hacc
  clear hacc
  have hsz := bld_lt hI
  have c1 := fun W => len_any s W H63.out
  by_cases hlt : k < ln s
  ·obtain ⟨f, rfl⟩ : ∃ f, fuel = f + 1 := ⟨fuel - 1, by omega⟩
   have c2 := fun W => at_any s k W hlt H63.out
   have c3 := fun W => pair_any s k W hlt H63.out
   have hu := un_lt s k
   have hbl2 : acc.length + 6 ≤ 140737488355328 := by have := HS.out; have := HL.out; omega
   cases hp : prB s k
   ·cases h1 : (hiB (un s k) || loB (un s k))
    ·have hA : oneU (un s k) = Lib.encodeRune (un s k) := by unfold oneU; rw [h1]; rfl
     have HG := Lib.hid (show (acc ++ Lib.encodeRune (un s k)) ++ encF s f (k + 1) = encS s by rw [← HA.out, encF_one s f k hlt hp, hA, List.append_assoc])
     have hlen : (acc ++ Lib.encodeRune (un s k)).length ≤ 6 * (k + 1) := by rw [List.length_append]; have := enc_le (un s k); omega
     have h2 : decide (((un s k : Nat) : Int) < 55296) = true ∨ (decide (((un s k : Nat) : Int) < 55296) = false ∧ decide ((57344 : Int) ≤ ((un s k : Nat) : Int)) = true) := by
      simp [hiB, loB] at h1; simp; omega
     have hr := fun W h hb => writeRune_any w.heap.size acc (un s k) (by omega) (by omega) W h (by omega) hb
     have hlt' : (k : Int) < (ln s : Int) := by omega
     clear hA HA h1 hp hu hbl2 c3
     have hw := Lib.hid (show wrap32 ((un s k : Nat) : Int) = ((un s k : Nat) : Int) by have := un_lt s k; unfold wrap32; omega)
     rcases h2 with h2 | ⟨h2, h3⟩
     all_goals
      go_wp2_with fail
      refine (c1 _).mono ?_
      rintro e w' ⟨rfl, rfl⟩
      go_wp2_with fail
      refine (c2 _).mono ?_
      rintro e w' ⟨rfl, n, rfl⟩
      go_wp2_with fail
      rw [hw.out]
      refine (hr _ (bld_drewN hI n) (by have := hbw.size; simpa using this)).mono ?_
      rintro e w3 ⟨rfl, hI3, hb3⟩
      go_wp2
      go_roundw
      case rel => exact ⟨k + 1, f, acc ++ Lib.encodeRune (un s k), by go_num, by omega, hI3, (below_drewN' hbw n).trans hb3, HG.out, by omega, hlen⟩
      case measure => simp [intOf]; omega
    ·have hA : oneU (un s k) = esc (un s k) := by unfold oneU; rw [h1]; rfl
     have HG := Lib.hid (show (acc ++ esc (un s k)) ++ encF s f (k + 1) = encS s by rw [← HA.out, encF_one s f k hlt hp, hA, List.append_assoc])
     have hlen : (acc ++ esc (un s k)).length ≤ 6 * (k + 1) := by rw [List.length_append]; simp [esc]; omega
     have h23 : decide (((un s k : Nat) : Int) < 55296) = false ∧ decide ((57344 : Int) ≤ ((un s k : Nat) : Int)) = false := by
      simp [hiB, loB] at h1; simp; omega
     obtain ⟨h2, h3⟩ := h23
     have hr := fun W h hb => writeEscape_any w.heap.size acc (un s k) (by omega) W h (by omega) hb
     have hlt' : (k : Int) < (ln s : Int) := by omega
     have HP := Lib.hid hp
     clear hA HA h1 hp hu hbl2
     go_wp2_with fail
     refine (c1 _).mono ?_
     rintro e w' ⟨rfl, rfl⟩
     go_wp2_with fail
     refine (c2 _).mono ?_
     rintro e w' ⟨rfl, n, rfl⟩
     go_wp2_with fail
     refine (c3 _).mono ?_
     rw [HP.out]
     rintro e w' ⟨rfl, n2, rfl⟩
     go_wp2_with fail
     refine (hr _ (bld_drewN hI (n + n2)) (by have := hbw.size; simpa using this)).mono ?_
     rintro e w3 ⟨rfl, hI3, hb3⟩
     go_wp2
     go_roundw
     case rel => exact ⟨k + 1, f, acc ++ esc (un s k), by go_num, by omega, hI3, (below_drewN' hbw (n + n2)).trans hb3, HG.out, by omega, hlen⟩
     case measure => simp [intOf]; omega
   ·have hpp := prB_parts s k hp
    have hlt' : (k : Int) < (ln s : Int) := by omega
    have c4 : ∀ W, Cp 66 #[.string s, .int .i64 ((k : Int) + 1)] W fun e w' => e = .returned (.int .u16 (un s (k + 1))) ∧ ∃ n, w' = W.drewN n := fun W => by
     rw [show ((k : Int) + 1) = ((k + 1 : Nat) : Int) by omega]; exact at_any s (k + 1) W hpp.1 H63.out
    have h2 : decide (((un s k : Nat) : Int) < 55296) = false := by simp; omega
    have h3 : decide ((57344 : Int) ≤ ((un s k : Nat) : Int)) = false := by simp; omega
    have hP := Lib.hid (show ((prP s k : Nat) : Int) = 65536 + (((un s k : Nat) : Int) - 55296) * 1024 + (((un s (k + 1) : Nat) : Int) - 56320) by unfold prP; omega)
    have hr := fun W h hb => writeRune_any w.heap.size acc (65536 + (((un s k : Nat) : Int) - 55296) * 1024 + (((un s (k + 1) : Nat) : Int) - 56320)) (by omega) (by omega) W h (by omega) hb
    have HG := Lib.hid (show (acc ++ Lib.encodeRune (prP s k)) ++ encF s f (k + 2) = encS s by rw [← HA.out, encF_pair s f k hlt hp, List.append_assoc])
    have hlen : (acc ++ Lib.encodeRune (prP s k)).length ≤ 6 * (k + 2) := by rw [List.length_append]; have := enc_le (prP s k); omega
    clear HA
    go_wp2_with fail
    refine (c1 _).mono ?_
    rintro e w' ⟨rfl, rfl⟩
    go_wp2_with fail
    refine (c2 _).mono ?_
    rintro e w' ⟨rfl, n, rfl⟩
    go_wp2_with fail
    refine (c3 _).mono ?_
    rw [hp]
    rintro e w' ⟨rfl, n2, rfl⟩
    go_wp2_with fail
    refine (c4 _).mono ?_
    rintro e w' ⟨rfl, n3, rfl⟩
    go_wp2_with fail
    refine (hr _ (bld_drewN hI (n + n2 + n3)) (by have := hbw.size; simpa using this)).mono ?_
    rintro e w3 ⟨rfl, hI3, hb3⟩
    go_wp2
    go_roundw
    case rel => exact ⟨k + 2, f, acc ++ Lib.encodeRune (prP s k), by go_num, by omega, by rw [hP.out]; exact hI3, (below_drewN' hbw (n + n2 + n3)).trans hb3, HG.out, by omega, hlen⟩
    case measure => simp [intOf]; omega
  ·have HZ := Lib.hid (show acc = encS s by rw [← HA.out, encF_end s fuel k hlt, List.append_nil])
   have hS := Tryz.Builder_String_any_k w.heap.size w.heap.size acc wr hI (by omega)
   have hlt' : ¬ ((k : Int) < (ln s : Int)) := by omega
   clear HA
   go_wp2_with (first | (go_at_call 29; refine (c1 _).mono ?_; rintro e w' ⟨rfl, rfl⟩) | (go_at_call 65; refine hS.mono ?_; rintro e w2 ⟨rfl, _, hb2, _⟩))
   go_ret
   rw [← HZ.out]
   exact ⟨rfl, hbw.trans hb2⟩


end Go.Proofs.YtjmplgbhjpldbaaGreatDoor
namespace Go.Proofs.YtjmplgbhjpldbaaGreatDoor
open Go.RowKit
def resW : List (List UInt8) := [[98, 114, 101, 97, 107], [99, 97, 115, 101], [99, 97, 116, 99, 104], [99, 108, 97, 115, 115], [99, 111, 110, 115, 116], [99, 111, 110, 116, 105, 110, 117, 101], [100, 101, 98, 117, 103, 103, 101, 114], [100, 101, 102, 97, 117, 108, 116], [100, 101, 108, 101, 116, 101], [100, 111], [101, 108, 115, 101], [101, 110, 117, 109], [101, 120, 112, 111, 114, 116], [101, 120, 116, 101, 110, 100, 115], [102, 97, 108, 115, 101], [102, 105, 110, 97, 108, 108, 121], [102, 111, 114], [102, 117, 110, 99, 116, 105, 111, 110], [105, 102], [105, 109, 112, 108, 101, 109, 101, 110, 116, 115], [105, 109, 112, 111, 114, 116], [105, 110], [105, 110, 115, 116, 97, 110, 99, 101, 111, 102], [105, 110, 116, 101, 114, 102, 97, 99, 101], [108, 101, 116], [110, 101, 119], [110, 117, 108, 108], [112, 97, 99, 107, 97, 103, 101], [112, 114, 105, 118, 97, 116, 101], [112, 114, 111, 116, 101, 99, 116, 101, 100], [112, 117, 98, 108, 105, 99], [114, 101, 116, 117, 114, 110], [115, 116, 97, 116, 105, 99], [115, 117, 112, 101, 114], [115, 119, 105, 116, 99, 104], [116, 104, 105, 115], [116, 104, 114, 111, 119], [116, 114, 117, 101], [116, 114, 121], [116, 121, 112, 101, 111, 102], [118, 97, 114], [118, 111, 105, 100], [119, 104, 105, 108, 101], [119, 105, 116, 104], [121, 105, 101, 108, 100]]
set_option maxRecDepth 100000 in
set_option maxHeartbeats 4000000 in
theorem xReserved_enc (s : ByteArray) (w : World) (hs : s.size ≤ 17592186044416) :
  Ct 18 #[.string s] (.bool (resW.any fun x => (⟨(encS s).toArray⟩ : ByteArray).toList == x)) w := by
 have C1 := Lib.hid (fun W => encode_any s W hs)
 obtain ⟨E, hE⟩ : ∃ E : ByteArray, (⟨(encS s).toArray⟩ : ByteArray) = E := ⟨_, rfl⟩
 rw [hE] at C1 ⊢
 clear hs hE
 go_enter Tryz.func18, Tryz.ntmps18
 go_wp2_with fail
 refine (C1.out _).mono ?_
 rintro e w' ⟨rfl, hb⟩
 go_wp2
 all_goals try go_ret
 all_goals first
  | exact ⟨by simp only [resW, List.any_cons, List.any_nil, *, Bool.true_or, Bool.false_or, Bool.or_true]; rfl, hb⟩
  | (exfalso; simp_all)


end Go.Proofs.YtjmplgbhjpldbaaGreatDoor
namespace Go.Proofs.YtjmplgbhjpldbaaGreatDoor
def fmag (r : Nat) : Nat := if r < 4503599627370496 then r else (4503599627370496 + r % 4503599627370496) * 2 ^ (r / 4503599627370496 - 1)
theorem fmag_step {r s : Nat} (h : r < s) : fmag r < fmag s := by
 unfold fmag
 by_cases h1 : r < 4503599627370496
 ·rw [if_pos h1]
  by_cases h2 : s < 4503599627370496
  ·rw [if_pos h2]; exact h
  ·rw [if_neg h2]
   have h3 : (4503599627370496 + s % 4503599627370496) * 1 ≤ (4503599627370496 + s % 4503599627370496) * 2 ^ (s / 4503599627370496 - 1) := Nat.mul_le_mul_left _ (Nat.two_pow_pos _)
   omega
 ·have h2 : ¬ s < 4503599627370496 := by omega
  rw [if_neg h1, if_neg h2]
  have e1 := Nat.div_add_mod r 4503599627370496
  have e2 := Nat.div_add_mod s 4503599627370496
  have l1 : r % 4503599627370496 < 4503599627370496 := Nat.mod_lt _ (by omega)
  have l2 : s % 4503599627370496 < 4503599627370496 := Nat.mod_lt _ (by omega)
  have q1 : 1 ≤ r / 4503599627370496 := by omega
  have q3 : r / 4503599627370496 ≤ s / 4503599627370496 := by omega
  generalize r / 4503599627370496 = q at *
  generalize s / 4503599627370496 = p at *
  generalize r % 4503599627370496 = t at *
  generalize s % 4503599627370496 = u at *
  obtain ⟨a, rfl⟩ : ∃ a, q = a + 1 := ⟨q - 1, by omega⟩
  rw [Nat.add_sub_cancel]
  rcases Nat.eq_or_lt_of_le q3 with h3 | h3
  ·rw [← h3, Nat.add_sub_cancel]
   have h4 : t < u := by omega
   exact Nat.mul_lt_mul_of_pos_right (by omega) (Nat.two_pow_pos _)
  ·obtain ⟨b, rfl⟩ : ∃ b, p = a + 1 + b + 1 := ⟨p - a - 2, by omega⟩
   rw [Nat.add_sub_cancel]
   have h5 : (4503599627370496 + t) * 2 ^ a < (2 * 4503599627370496) * 2 ^ a := Nat.mul_lt_mul_of_pos_right (by omega) (Nat.two_pow_pos _)
   have h6 : 2 * 4503599627370496 * 2 ^ a = 4503599627370496 * 2 ^ (a + 1) := by rw [Nat.pow_succ]; grind
   have h7 : 4503599627370496 * 2 ^ (a + 1) ≤ (4503599627370496 + u) * 2 ^ (a + 1 + b) := Nat.mul_le_mul (by omega) (Nat.pow_le_pow_right (by omega) (by omega))
   omega
theorem fmag_lt {r s : Nat} : fmag r < fmag s ↔ r < s := by
 refine ⟨fun h => ?_, fmag_step⟩
 rcases Nat.lt_or_ge r s with h1 | h1
 ·exact h1
 ·rcases Nat.eq_or_lt_of_le h1 with h2 | h2
  ·rw [h2] at h; omega
  ·have := fmag_step h2; omega
theorem fmag_inj {r s : Nat} (h : fmag r = fmag s) : r = s := by
 rcases Nat.lt_trichotomy r s with h1 | h1 | h1
 ·have := fmag_step h1; omega
 ·exact h1
 ·have := fmag_step h1; omega
def rung (w : Nat) : Nat := w % 9223372036854775808
def fneg (w : Nat) : Bool := w / 9223372036854775808 % 2 == 1
theorem read_num {w : Nat} (h : rung w < 9218868437227405312) : ∃ m e, Ieee.double.read w = .number (fneg w) m e ∧ -1074 ≤ e ∧ fmag (rung w) = m * 2 ^ (e + 1074).toNat := by
 have e1 : Ieee.double.signWeight = 9223372036854775808 := by decide
 have e2 : Ieee.double.binade = 4503599627370496 := by decide
 have e3 : Ieee.double.infRung = 9218868437227405312 := by decide
 have e4 : Ieee.double.leastPlace = -1074 := by decide
 unfold rung at h ⊢
 unfold Ieee.Format.read
 simp only [e1, e2, e3, e4]
 unfold fmag fneg
 by_cases h1 : w % 9223372036854775808 < 4503599627370496
 ·rw [if_pos h1, if_pos h1]
  exact ⟨_, _, rfl, by omega, by simp⟩
 ·rw [if_neg h1, if_neg h1, if_pos h]
  refine ⟨_, _, rfl, by omega, ?_⟩
  congr 2
  omega
theorem read_inf {w : Nat} (h : rung w = 9218868437227405312) : Ieee.double.read w = .infinity (fneg w) := by
 have e1 : Ieee.double.signWeight = 9223372036854775808 := by decide
 have e2 : Ieee.double.binade = 4503599627370496 := by decide
 have e3 : Ieee.double.infRung = 9218868437227405312 := by decide
 unfold rung at h
 unfold Ieee.Format.read fneg
 simp only [e1, e2, e3]
 rw [if_neg (by omega), if_neg (by omega), if_pos h]
theorem read_nan {w : Nat} (h : 9218868437227405312 < rung w) : ∃ t, Ieee.double.read w = .nan (fneg w) t := by
 have e1 : Ieee.double.signWeight = 9223372036854775808 := by decide
 have e2 : Ieee.double.binade = 4503599627370496 := by decide
 have e3 : Ieee.double.infRung = 9218868437227405312 := by decide
 unfold rung at h
 unfold Ieee.Format.read fneg
 simp only [e1, e2, e3]
 rw [if_neg (by omega), if_neg (by omega), if_neg (by omega)]
 exact ⟨_, rfl⟩
def frank (w : Nat) : Int := if fneg w = true then -(rung w : Nat) else (rung w : Nat)
theorem signed_eq (s : Bool) (m k : Nat) : Ieee.signed s m k = if s = true then -((m * 2 ^ k : Nat) : Int) else ((m * 2 ^ k : Nat) : Int) := by
 unfold Ieee.signed
 rw [Nat.shiftLeft_eq]
theorem cmp_scale {a b : Int} {c : Nat} (hc : 0 < c) : compare (a * c) (b * c) = compare a b := by
 have hc' : (0 : Int) < (c : Int) := by omega
 have h1 : a * c < b * c ↔ a < b := Int.mul_lt_mul_right hc'
 have h2 : a * c = b * c ↔ a = b := ⟨fun h => Int.eq_of_mul_eq_mul_right (by omega) h, fun h => by rw [h]⟩
 simp only [compare, compareOfLessAndEq, h1, h2]
theorem cmp_signed {s t : Bool} {r q : Nat} : compare (if s = true then -((fmag r : Nat) : Int) else ((fmag r : Nat) : Int)) (if t = true then -((fmag q : Nat) : Int) else ((fmag q : Nat) : Int)) = compare (if s = true then -((r : Nat) : Int) else (r : Int)) (if t = true then -((q : Nat) : Int) else (q : Int)) := by
 have z : fmag 0 = 0 := rfl
 have p : ∀ x, 0 < fmag x ↔ 0 < x := fun x => by have := @fmag_lt 0 x; rw [z] at this; exact this
 have p1 := p r
 have p2 := p q
 have l1 := @fmag_lt r q
 have l2 := @fmag_lt q r
 have l3 : fmag r = fmag q ↔ r = q := ⟨fmag_inj, fun h => by rw [h]⟩
 generalize fmag r = R at *
 generalize fmag q = Q at *
 have key : ∀ a b c d : Int, (a < b ↔ c < d) → (a = b ↔ c = d) → compare a b = compare c d := by
  intro a b c d h1 h2
  simp only [compare, compareOfLessAndEq, h1, h2]
 cases s <;> cases t <;> simp only [if_true, Bool.false_eq_true, if_false] <;> refine key _ _ _ _ ?_ ?_ <;> omega
theorem order_eq {x y : Nat} (hx : rung x ≤ 9218868437227405312) (hy : rung y ≤ 9218868437227405312) : Ieee.double.order x y = some (compare (frank x) (frank y)) := by
 unfold Ieee.Format.order frank
 rcases Nat.eq_or_lt_of_le hx with hx | hx <;> rcases Nat.eq_or_lt_of_le hy with hy | hy
 ·rw [read_inf hx, read_inf hy, hx, hy]
  unfold Ieee.Datum.order
  cases fneg x <;> cases fneg y <;> rfl
 ·obtain ⟨m, e, h1, _, _⟩ := read_num hy
  rw [read_inf hx, h1, hx]
  unfold Ieee.Datum.order
  simp only
  congr 1
  cases fneg x <;> cases fneg y <;> simp only [if_true, Bool.false_eq_true, if_false] <;> simp only [compare, compareOfLessAndEq] <;> (repeat' split) <;> first | rfl | omega
 ·obtain ⟨m, e, h1, _, _⟩ := read_num hx
  rw [read_inf hy, h1, hy]
  unfold Ieee.Datum.order
  simp only
  congr 1
  cases fneg x <;> cases fneg y <;> simp only [if_true, Bool.false_eq_true, if_false] <;> simp only [compare, compareOfLessAndEq] <;> (repeat' split) <;> first | rfl | omega
 ·obtain ⟨m, e, h1, e1, f1⟩ := read_num hx
  obtain ⟨n, d, h2, e2, f2⟩ := read_num hy
  rw [h1, h2]
  unfold Ieee.Datum.order
  simp only
  rw [← cmp_signed, f1, f2, signed_eq, signed_eq]
  congr 1
  obtain ⟨B, hB⟩ : ∃ B, min e d = B := ⟨_, rfl⟩
  rw [hB]
  obtain ⟨k, hk⟩ : ∃ k : Nat, (k : Int) = B + 1074 := ⟨(B + 1074).toNat, by omega⟩
  have ee : (e + 1074).toNat = (e - B).toNat + k := by omega
  have ed : (d + 1074).toNat = (d - B).toNat + k := by omega
  rw [ee, ed, Nat.pow_add, Nat.pow_add]
  rw [← cmp_scale (c := 2 ^ k) (Nat.two_pow_pos k)]
  congr 1
  ·cases fneg x <;> simp <;> grind
  ·cases fneg y <;> simp <;> grind
theorem order_nan {x y : Nat} (h : 9218868437227405312 < rung x ∨ 9218868437227405312 < rung y) : Ieee.double.order x y = none := by
 unfold Ieee.Format.order
 rcases h with h | h
 ·obtain ⟨t, h1⟩ := read_nan h
  rw [h1]; rfl
 ·obtain ⟨t, h1⟩ := read_nan h
  rw [h1]
  cases Ieee.double.read x <;> rfl

end Go.Proofs.YtjmplgbhjpldbaaGreatDoor
namespace Go.Proofs.YtjmplgbhjpldbaaGreatDoor
theorem log2_of {N L : Nat} (h1 : 2 ^ L ≤ N) (h2 : N < 2 ^ (L + 1)) : N.log2 = L := by
 have h0 : N ≠ 0 := by have := Nat.two_pow_pos L; omega
 have a1 := (Nat.le_log2 h0).2 h1
 have a2 := (Nat.log2_lt h0).2 h2
 omega
theorem log2_two (N : Nat) (h : 0 < N) : 2 ^ N.log2 ≤ N ∧ N < 2 ^ (N.log2 + 1) := ⟨(Nat.le_log2 (by omega)).1 (Nat.le_refl _), (Nat.log2_lt (by omega)).1 (Nat.lt_succ_self _)⟩
def evn (n d : Nat) : Nat := n / 2 ^ d + (decide (2 ^ d < 2 * (n % 2 ^ d)) || (decide (2 ^ d = 2 * (n % 2 ^ d)) && decide (n / 2 ^ d % 2 = 1))).toNat
theorem cut_evn (n d : Nat) (h : d ≤ n.log2 + 2) : Ieee.Toward.even.cut false n d = evn n d := by
 unfold Ieee.Toward.cut evn
 rw [Nat.min_eq_left h, Nat.one_shiftLeft]
 rfl
theorem evn_exact (m d : Nat) : evn (m * 2 ^ d) d = m := by
 unfold evn
 have := Nat.two_pow_pos d
 rw [Nat.mul_mod_left, Nat.mul_div_cancel _ this]
 rw [decide_eq_false (by omega), decide_eq_false (by omega)]
 rfl
def fl (N : Nat) : Nat := FloatKind.f64.nearest (N : Int)
theorem fl_near (N : Nat) : fl N = Ieee.double.nearest false N 0 := by
 unfold fl FloatKind.nearest FloatKind.encode Ieee.Format.write
 have : decide ((N : Int) < 0) = false := decide_eq_false (by omega)
 simp only [this, Int.natAbs_natCast]
 rfl
theorem word_pos (f : Ieee.Format) (r : Nat) : f.word false r = r := rfl
theorem near_low (N L k : Nat) (h1 : 2 ^ L ≤ N) (h2 : N < 2 ^ (L + 1)) (hL : L ≤ 52) : Ieee.double.nearest false (N * 2 ^ k) (-(k : Int)) = (L + 1022) * 4503599627370496 + N * 2 ^ (52 - L) := by
 have e2 : Ieee.double.binade = 4503599627370496 := by decide
 have e3 : Ieee.double.infRung = 9218868437227405312 := by decide
 have e4 : Ieee.double.leastPlace = -1074 := by decide
 have e5 : Ieee.double.fractionBits = 52 := rfl
 have hN := Nat.two_pow_pos L
 have hk := Nat.two_pow_pos k
 have hlog : (N * 2 ^ k).log2 = L + k := log2_of (by rw [Nat.pow_add]; exact Nat.mul_le_mul_right _ h1) (by rw [show L + k + 1 = (L + 1) + k by omega, Nat.pow_add 2 (L + 1) k]; exact Nat.mul_lt_mul_of_pos_right h2 hk)
 have h0 : N * 2 ^ k ≠ 0 := by
  have := Nat.mul_pos (show 0 < N by omega) hk
  omega
 unfold Ieee.Format.nearest
 rw [if_neg h0, e2, e3, e4, e5, hlog]
 have e6 : max (-(k : Int) + ((L + k : Nat) : Int) - (52 : Nat)) (-1074) = (L : Int) - 52 := by omega
 rw [e6]
 dsimp only
 have h3 : N * 2 ^ (52 - L) < 9007199254740992 := by
  have : N * 2 ^ (52 - L) < 2 ^ (L + 1) * 2 ^ (52 - L) := Nat.mul_lt_mul_of_pos_right h2 (Nat.two_pow_pos _)
  rw [← Nat.pow_add, show L + 1 + (52 - L) = 53 by omega] at this
  exact this
 have hcut : Ieee.Toward.even.cut false ((N * 2 ^ k) <<< (-(k : Int) - ((L : Int) - 52)).toNat) ((L : Int) - 52 - -(k : Int)).toNat = N * 2 ^ (52 - L) := by
  rcases Nat.lt_or_ge (52 - L) k with hc | hc
  ·have q1 : (-(k : Int) - ((L : Int) - 52)).toNat = 0 := by omega
   have q2 : ((L : Int) - 52 - -(k : Int)).toNat = k - (52 - L) := by omega
   rw [q1, q2, Nat.shiftLeft_zero, cut_evn _ _ (by rw [hlog]; omega)]
   rw [show N * 2 ^ k = N * 2 ^ (52 - L) * 2 ^ (k - (52 - L)) by rw [Nat.mul_assoc, ← Nat.pow_add]; congr 2; omega]
   exact evn_exact _ _
  ·have q1 : (-(k : Int) - ((L : Int) - 52)).toNat = 52 - L - k := by omega
   have q2 : ((L : Int) - 52 - -(k : Int)).toNat = 0 := by omega
   rw [q1, q2, cut_evn _ _ (Nat.zero_le _), Nat.shiftLeft_eq, Nat.mul_assoc, ← Nat.pow_add, show k + (52 - L - k) = 52 - L by omega]
   have := evn_exact (N * 2 ^ (52 - L)) 0
   rwa [Nat.pow_zero, Nat.mul_one] at this
 rw [hcut]
 have e7 : ((L : Int) - 52 - -1074).toNat = L + 1022 := by omega
 rw [e7, Nat.min_eq_left (by omega), word_pos]
theorem fl_low {N L : Nat} (h1 : 2 ^ L ≤ N) (h2 : N < 2 ^ (L + 1)) (hL : L ≤ 52) : fl N = (L + 1022) * 4503599627370496 + N * 2 ^ (52 - L) := by
 rw [fl_near]
 have h := near_low N L 0 h1 h2 hL
 have e : -((0 : Nat) : Int) = 0 := rfl
 rw [Nat.pow_zero, Nat.mul_one, e] at h
 exact h
theorem fl_high {N L : Nat} (h1 : 2 ^ L ≤ N) (h2 : N < 2 ^ (L + 1)) (hL : 52 ≤ L) : fl N = min ((L + 1022) * 4503599627370496 + evn N (L - 52)) 9218868437227405312 := by
 have e2 : Ieee.double.binade = 4503599627370496 := by decide
 have e3 : Ieee.double.infRung = 9218868437227405312 := by decide
 have e4 : Ieee.double.leastPlace = -1074 := by decide
 have e5 : Ieee.double.fractionBits = 52 := rfl
 have hN := Nat.two_pow_pos L
 have hlog := log2_of h1 h2
 rw [fl_near]
 unfold Ieee.Format.nearest
 rw [if_neg (by omega), e2, e3, e4, e5, hlog]
 have e6 : max (0 + (L : Int) - (52 : Nat)) (-1074) = (L : Int) - 52 := by omega
 rw [e6]
 dsimp only
 have q1 : ((0 : Int) - ((L : Int) - 52)).toNat = 0 := by omega
 have q2 : ((L : Int) - 52 - 0).toNat = L - 52 := by omega
 rw [q1, q2, Nat.shiftLeft_zero, cut_evn _ _ (by rw [hlog]; omega)]
 have e7 : ((L : Int) - 52 - -1074).toNat = L + 1022 := by omega
 rw [e7, word_pos]
theorem fl_zero : fl 0 = 0 := by rw [fl_near]; decide
end Go.Proofs.YtjmplgbhjpldbaaGreatDoor
namespace Go.Proofs.YtjmplgbhjpldbaaGreatDoor
theorem fmag_zero : fmag 0 = 0 := rfl
theorem fmag_pos {r : Nat} : 0 < fmag r ↔ 0 < r := by have := @fmag_lt 0 r; rw [fmag_zero] at this; exact this
theorem fmag_low {r : Nat} (h : r < 9007199254740992) : fmag r = r := by
 unfold fmag
 by_cases h1 : r < 4503599627370496
 ·rw [if_pos h1]
 ·rw [if_neg h1, show r / 4503599627370496 = 1 by omega, Nat.sub_self, Nat.pow_zero]; omega
theorem fmag_make (M d : Nat) (h1 : 4503599627370496 ≤ M) (h2 : M < 9007199254740992) : fmag (d * 4503599627370496 + M) = M * 2 ^ d := by
 unfold fmag
 rw [if_neg (by omega), show (d * 4503599627370496 + M) % 4503599627370496 = M - 4503599627370496 by omega, show (d * 4503599627370496 + M) / 4503599627370496 = d + 1 by omega, Nat.add_sub_cancel]
 rw [show 4503599627370496 + (M - 4503599627370496) = M by omega]
theorem fmag_split {r : Nat} (h : 4503599627370496 ≤ r) : ∃ M d, 4503599627370496 ≤ M ∧ M < 9007199254740992 ∧ r = d * 4503599627370496 + M ∧ fmag r = M * 2 ^ d :=
 ⟨4503599627370496 + r % 4503599627370496, r / 4503599627370496 - 1, by omega, by omega, by omega, by unfold fmag; rw [if_neg (by omega)]⟩
theorem log2_mul {M d : Nat} (h : 0 < M) : (M * 2 ^ d).log2 = M.log2 + d := by
 obtain ⟨a1, a2⟩ := log2_two M h
 refine log2_of ?_ ?_
 ·rw [Nat.pow_add]; exact Nat.mul_le_mul_right _ a1
 ·rw [show M.log2 + d + 1 = M.log2 + 1 + d by omega, Nat.pow_add]; exact Nat.mul_lt_mul_of_pos_right a2 (Nat.two_pow_pos d)
theorem log2_sig {M : Nat} (h1 : 4503599627370496 ≤ M) (h2 : M < 9007199254740992) : M.log2 = 52 := log2_of (show 2 ^ 52 ≤ M by exact h1) (show M < 2 ^ 53 by exact h2)
theorem cut_sgn (s : Bool) (n d : Nat) : Ieee.Toward.even.cut s n d = Ieee.Toward.even.cut false n d := rfl
theorem pow_cancel {x y a b : Nat} (h : x * 2 ^ (a + b) = y * 2 ^ b) : x * 2 ^ a = y := by
 rw [Nat.pow_add, ← Nat.mul_assoc] at h
 exact Nat.eq_of_mul_eq_mul_right (Nat.two_pow_pos b) h
theorem near_gen (s : Bool) {r m a b : Nat} {e : Int} (hr : r < 9218868437227405312) (hab : (a : Int) - b = e + 1074) (h : m * 2 ^ a = fmag r * 2 ^ b) : Ieee.double.nearest s m e = Ieee.double.word s r := by
 have e2 : Ieee.double.binade = 4503599627370496 := by decide
 have e3 : Ieee.double.infRung = 9218868437227405312 := by decide
 have e4 : Ieee.double.leastPlace = -1074 := by decide
 have e5 : Ieee.double.fractionBits = 52 := rfl
 unfold Ieee.Format.nearest
 rcases Nat.eq_zero_or_pos r with h0 | h0
 ·subst h0
  rw [fmag_zero, Nat.zero_mul] at h
  have hm : m = 0 := (Nat.mul_eq_zero.1 h).resolve_right (by have := Nat.two_pow_pos a; omega)
  rw [if_pos hm]
 ·have hf := fmag_pos.2 h0
  have hm : 0 < m := by
   rcases Nat.eq_zero_or_pos m with h1 | h1
   ·rw [h1, Nat.zero_mul] at h
    have := Nat.mul_pos hf (Nat.two_pow_pos b)
    omega
   ·exact h1
  rw [if_neg (by omega), e2, e3, e4, e5]
  have hlog : m.log2 + a = (fmag r).log2 + b := by rw [← log2_mul hm, ← log2_mul hf, h]
  obtain ⟨L, hL⟩ : ∃ L, m.log2 = L := ⟨_, rfl⟩
  rw [hL] at hlog ⊢
  dsimp only
  by_cases hlow : r < 9007199254740992
  ·have hfr := fmag_low hlow
   rw [hfr] at hlog h
   have hl : r.log2 ≤ 52 := by have := (Nat.log2_lt (n := r) (k := 53) (by omega)).2 hlow; omega
   have e6 : max (e + (L : Int) - (52 : Nat)) (-1074) = -1074 := by omega
   rw [e6, cut_sgn]
   have hcut : Ieee.Toward.even.cut false (m <<< (e - -1074).toNat) (-1074 - e).toNat = r := by
    rcases Nat.lt_or_ge a b with hlt | hge
    ·obtain ⟨c, rfl⟩ : ∃ c, b = c + a := ⟨b - a, by omega⟩
     have hmm : m = r * 2 ^ c := (pow_cancel (x := r) (y := m) h.symm).symm
     have q1 : (e - -1074).toNat = 0 := by omega
     have q2 : (-1074 - e).toNat = c := by omega
     rw [q1, q2, Nat.shiftLeft_zero, cut_evn _ _ (by rw [hmm, log2_mul h0]; omega), hmm, evn_exact]
    ·obtain ⟨c, rfl⟩ : ∃ c, a = c + b := ⟨a - b, by omega⟩
     have hmm : m * 2 ^ c = r := pow_cancel h
     have q1 : (e - -1074).toNat = c := by omega
     have q2 : (-1074 - e).toNat = 0 := by omega
     rw [q1, q2, Nat.shiftLeft_eq, hmm, cut_evn _ _ (Nat.zero_le _)]
     have := evn_exact r 0
     rwa [Nat.pow_zero, Nat.mul_one] at this
   rw [hcut, show (-1074 - -1074 : Int).toNat = 0 by omega, Nat.zero_mul, Nat.zero_add, Nat.min_eq_left (by omega)]
  ·obtain ⟨M, d, h1, h2, hrd, hfr⟩ := fmag_split (r := r) (by omega)
   rw [hfr, log2_mul (by omega), log2_sig h1 h2] at hlog
   rw [hfr] at h
   have hd : 0 < d := by omega
   have e6 : max (e + (L : Int) - (52 : Nat)) (-1074) = (d : Int) - 1074 := by omega
   rw [e6, cut_sgn]
   have hcut : Ieee.Toward.even.cut false (m <<< (e - ((d : Int) - 1074)).toNat) ((d : Int) - 1074 - e).toNat = M := by
    rw [Nat.mul_assoc, ← Nat.pow_add] at h
    rcases Nat.lt_or_ge a (d + b) with hlt | hge
    ·obtain ⟨c, hc⟩ : ∃ c, d + b = c + a := ⟨d + b - a, by omega⟩
     rw [hc] at h
     have hmm : m = M * 2 ^ c := (pow_cancel (x := M) (y := m) h.symm).symm
     have q1 : (e - ((d : Int) - 1074)).toNat = 0 := by omega
     have q2 : ((d : Int) - 1074 - e).toNat = c := by omega
     rw [q1, q2, Nat.shiftLeft_zero, cut_evn _ _ (by rw [hL]; omega), hmm, evn_exact]
    ·obtain ⟨c, hc⟩ : ∃ c, a = c + (d + b) := ⟨a - (d + b), by omega⟩
     rw [hc] at h
     have hmm : m * 2 ^ c = M := pow_cancel h
     have q1 : (e - ((d : Int) - 1074)).toNat = c := by omega
     have q2 : ((d : Int) - 1074 - e).toNat = 0 := by omega
     rw [q1, q2, Nat.shiftLeft_eq, hmm, cut_evn _ _ (Nat.zero_le _)]
     have := evn_exact M 0
     rwa [Nat.pow_zero, Nat.mul_one] at this
   rw [hcut, show ((d : Int) - 1074 - -1074).toNat = d by omega, Nat.min_eq_left (by omega), ← hrd]
theorem rep_of {N M j : Nat} (hN : N = M * 2 ^ j) (hM : M < 9007199254740992) : ∃ r, fmag r = N := by
  by_cases hlow : N < 9007199254740992
  · exact ⟨N, fmag_low hlow⟩
  · have hM0 : 0 < M := by rcases Nat.eq_zero_or_pos M with h | h; · rw [h] at hN; omega
                           · exact h
    obtain ⟨a1, a2⟩ := log2_two M hM0
    have hl : M.log2 ≤ 52 := by have := (Nat.log2_lt (n := M) (k := 53) (by omega)).2 hM; omega
    obtain ⟨c, hc⟩ : ∃ c, c + M.log2 = 52 := ⟨52 - M.log2, by omega⟩
    have b1 : 4503599627370496 ≤ M * 2 ^ c := by
      have : 2 ^ M.log2 * 2 ^ c ≤ M * 2 ^ c := Nat.mul_le_mul_right _ a1
      rw [← Nat.pow_add, show M.log2 + c = 52 by omega] at this
      exact this
    have b2 : M * 2 ^ c < 9007199254740992 := by
      have : M * 2 ^ c < 2 ^ (M.log2 + 1) * 2 ^ c := Nat.mul_lt_mul_of_pos_right a2 (Nat.two_pow_pos c)
      rw [← Nat.pow_add, show M.log2 + 1 + c = 53 by omega] at this
      exact this
    have hjc : c ≤ j := by
      rcases Nat.lt_or_ge j c with h | h
      · have h1 : M * 2 ^ j ≤ M * 2 ^ c := Nat.mul_le_mul_left _ (Nat.pow_le_pow_right (by omega) (by omega))
        omega
      · exact h
    obtain ⟨d, rfl⟩ : ∃ d, j = c + d := ⟨j - c, by omega⟩
    exact ⟨d * 4503599627370496 + M * 2 ^ c, by rw [fmag_make _ _ b1 b2, hN, Nat.pow_add, Nat.mul_assoc]⟩
theorem read_pos {w : Nat} (h : w < 9218868437227405312) : ∃ m e, Ieee.double.read w = .number false m e ∧ -1074 ≤ e ∧ fmag w = m * 2 ^ (e + 1074).toNat := by
 have h1 : rung w = w := Nat.mod_eq_of_lt (by omega)
 have h2 : fneg w = false := by unfold fneg; rw [Nat.div_eq_of_lt (by omega)]; rfl
 obtain ⟨m, e, a, b, c⟩ := read_num (w := w) (by rw [h1]; exact h)
 rw [h2] at a
 rw [h1] at c
 exact ⟨m, e, a, b, c⟩
theorem mul_exact {x y r : Nat} (hx : x < 9218868437227405312) (hy : y < 9218868437227405312) (hr : r < 9218868437227405312) {K : Nat} (hK : K = 1074) (h : fmag x * fmag y = fmag r * 2 ^ K) : Ieee.double.mul x y = some r := by
 obtain ⟨m, i, a1, a2, a3⟩ := read_pos hx
 obtain ⟨n, j, b1, b2, b3⟩ := read_pos hy
 unfold Ieee.Format.mul
 rw [a1, b1]
 simp only [Ieee.Datum.product, Option.map_some, Bool.xor_self]
 refine congrArg some ?_
 refine near_gen false (a := (i + 1074).toNat + (j + 1074).toNat) (b := K) hr (by omega) ?_
 rw [← h, a3, b3, Nat.pow_add]
 grind

end Go.Proofs.YtjmplgbhjpldbaaGreatDoor
namespace Go.Proofs.YtjmplgbhjpldbaaGreatDoor
open Go.RowKit
theorem fmag_fl {N : Nat} (h : N < 9007199254740992) {K : Nat} (hK : K = 1074) : fmag (fl N) = N * 2 ^ K ∧ fl N < 9218868437227405312 := by
 obtain ⟨r, hr⟩ := rep_of (N := N * 2 ^ K) rfl h
 have hlt : r < 9218868437227405312 := by
  obtain ⟨J, hJ⟩ : ∃ J : Nat, J = 2046 := ⟨_, rfl⟩
  have e1 := fmag_make 4503599627370496 J (by omega) (by omega)
  rw [show J * 4503599627370496 + 4503599627370496 = 9218868437227405312 by rw [hJ]] at e1
  refine fmag_lt.1 ?_
  rw [hr, e1]
  have h1 : N * 2 ^ K < 9007199254740992 * 2 ^ K := Nat.mul_lt_mul_of_pos_right h (Nat.two_pow_pos K)
  have h2 : 9007199254740992 * 2 ^ K ≤ 4503599627370496 * 2 ^ J := by
   rw [show (9007199254740992 : Nat) = 4503599627370496 * 2 by rfl, Nat.mul_assoc]
   refine Nat.mul_le_mul_left _ ?_
   rw [show 2 * 2 ^ K = 2 ^ (K + 1) by rw [Nat.pow_succ, Nat.mul_comm]]
   exact Nat.pow_le_pow_right (by omega) (by omega)
  omega
 have := near_gen false (r := r) (m := N) (a := K) (b := 0) (e := 0) hlt (by omega) (by rw [hr, Nat.pow_zero, Nat.mul_one])
 rw [fl_near, this]
 exact ⟨hr, hlt⟩
end Go.Proofs.YtjmplgbhjpldbaaGreatDoor
namespace Go.Proofs.YtjmplgbhjpldbaaGreatDoor
theorem evn_far {n d : Nat} (h : 2 * n < 2 ^ d) : evn n d = 0 := by
 have h1 : n < 2 ^ d := by omega
 unfold evn
 rw [Nat.div_eq_of_lt h1, Nat.mod_eq_of_lt h1, decide_eq_false (by omega), decide_eq_false (by omega)]
 rfl
theorem cut_all (n d : Nat) (hn : 0 < n) : Ieee.Toward.even.cut false n d = evn n d := by
 rcases Nat.lt_or_ge (n.log2 + 2) d with h | h
 ·have h1 := (log2_two n hn).2
  have h2 : Ieee.Toward.even.cut false n d = evn n (n.log2 + 2) := by
   rw [← cut_evn n (n.log2 + 2) (Nat.le_refl _)]
   unfold Ieee.Toward.cut
   rw [Nat.min_eq_right (by omega), Nat.min_self]
  have h3 : 2 * n < 2 ^ (n.log2 + 2) := by rw [show n.log2 + 2 = n.log2 + 1 + 1 by omega, Nat.pow_succ]; omega
  rw [h2, evn_far h3, evn_far (Nat.lt_of_lt_of_le h3 (Nat.pow_le_pow_right (by omega) (by omega)))]
 ·exact cut_evn n d h
theorem fmag_form (R : Nat) : ∃ M d, R = d * 4503599627370496 + M ∧ fmag R = M * 2 ^ d ∧ M < 9007199254740992 ∧ (d = 0 ∨ 4503599627370496 ≤ M) := by
 rcases Nat.lt_or_ge R 4503599627370496 with h | h
 ·exact ⟨R, 0, by omega, by rw [fmag_low (by omega), Nat.pow_zero, Nat.mul_one], by omega, Or.inl rfl⟩
 ·obtain ⟨M, d, a, b, c, e⟩ := fmag_split h
  exact ⟨M, d, c, e, b, Or.inr a⟩
end Go.Proofs.YtjmplgbhjpldbaaGreatDoor
namespace Go.Proofs.YtjmplgbhjpldbaaGreatDoor
end Go.Proofs.YtjmplgbhjpldbaaGreatDoor
namespace Go.Proofs.YtjmplgbhjpldbaaGreatDoor
end Go.Proofs.YtjmplgbhjpldbaaGreatDoor
namespace Go.Proofs.YtjmplgbhjpldbaaGreatDoor
def ediv (u w : Nat) : Nat := u / w + (decide (w < 2 * (u % w)) || (decide (w = 2 * (u % w)) && decide (u / w % 2 = 1))).toNat
theorem ediv_evn (n d : Nat) : ediv n (2 ^ d) = evn n d := rfl
theorem ediv_scale {u w k : Nat} (hk : 0 < k) : ediv (u * k) (w * k) = ediv u w := by
 unfold ediv
 rw [Nat.mul_div_mul_right _ _ hk, Nat.mul_mod_mul_right]
 have h1 : (w * k < 2 * (u % w * k)) ↔ (w < 2 * (u % w)) := by
  rw [← Nat.mul_assoc]
  exact Nat.mul_lt_mul_right hk
 have h2 : (w * k = 2 * (u % w * k)) ↔ (w = 2 * (u % w)) := by
  rw [← Nat.mul_assoc]
  exact ⟨fun h => Nat.eq_of_mul_eq_mul_right hk h, fun h => by rw [← h]⟩
 simp only [h1, h2]
theorem ediv_le {u w C : Nat} (hw : 0 < w) (h : u ≤ C * w) : ediv u w ≤ C := by
 unfold ediv
 have e1 := Nat.div_add_mod u w
 have hq : u / w ≤ C := Nat.div_le_of_le_mul (by rw [Nat.mul_comm]; exact h)
 rcases Nat.eq_or_lt_of_le hq with h1 | h1
 ·have h2 : u % w = 0 := by rw [h1, Nat.mul_comm] at e1; omega
  rw [h2, decide_eq_false (by omega), decide_eq_false (by omega)]
  simp only [Bool.false_and, Bool.or_self, Bool.toNat_false]
  omega
 ·have := Bool.toNat_le (decide (w < 2 * (u % w)) || (decide (w = 2 * (u % w)) && decide (u / w % 2 = 1)))
  omega
theorem ediv_ge {u w C : Nat} (hw : 0 < w) (h : C * w ≤ u) : C ≤ ediv u w := by
 unfold ediv
 have h1 : C ≤ u / w := (Nat.le_div_iff_mul_le hw).2 h
 omega
theorem ediv_zero (w : Nat) : ediv 0 w = 0 := by
 unfold ediv
 rw [Nat.zero_div, Nat.zero_mod, decide_eq_false (by omega), show decide (0 % 2 = 1) = false by decide, Bool.and_false]
 rfl
def rplace (u v : Nat) : Nat := (u / v).log2 - 52
def rnd (u v : Nat) : Nat := min (rplace u v * 4503599627370496 + ediv u (2 ^ rplace u v * v)) 9218868437227405312
theorem rplace_scale {u v k : Nat} (hk : 0 < k) : rplace (u * k) (v * k) = rplace u v := by
 unfold rplace
 rw [Nat.mul_div_mul_right _ _ hk]
theorem rnd_scale {u v k : Nat} (hk : 0 < k) : rnd (u * k) (v * k) = rnd u v := by
 unfold rnd
 rw [rplace_scale hk, ← Nat.mul_assoc, ediv_scale hk]
theorem rplace_of {u v D : Nat} (hv : 0 < v) (h1 : D = 0 ∨ 4503599627370496 * 2 ^ D * v ≤ u) (h2 : u < 9007199254740992 * 2 ^ D * v) : rplace u v = D := by
 unfold rplace
 have hlt : u / v < 9007199254740992 * 2 ^ D := (Nat.div_lt_iff_lt_mul hv).2 h2
 have e1 : 9007199254740992 * 2 ^ D = 2 ^ (D + 53) := by rw [Nat.pow_add, Nat.mul_comm]
 have e2 : 4503599627370496 * 2 ^ D = 2 ^ (D + 52) := by rw [Nat.pow_add, Nat.mul_comm]
 rw [e1] at hlt
 rcases Nat.eq_zero_or_pos (u / v) with h0 | h0
 ·rw [h0]
  rcases h1 with h1 | h1
  ·rw [h1]; rfl
  ·have := (Nat.le_div_iff_mul_le hv).2 h1
   rw [h0] at this
   have := Nat.two_pow_pos D
   omega
 ·have hl : (u / v).log2 < D + 53 := (Nat.log2_lt (by omega)).2 hlt
  rcases h1 with h1 | h1
  ·omega
  ·have h3 := (Nat.le_div_iff_mul_le hv).2 h1
   rw [e2] at h3
   have := (Nat.le_log2 (by omega)).2 h3
   omega
theorem near_rnd (s : Bool) {m a b : Nat} {e : Int} (hab : (a : Int) - b = e + 1074) : Ieee.double.nearest s m e = Ieee.double.word s (rnd (m * 2 ^ a) (2 ^ b)) := by
 have e2 : Ieee.double.binade = 4503599627370496 := by decide
 have e3 : Ieee.double.infRung = 9218868437227405312 := by decide
 have e4 : Ieee.double.leastPlace = -1074 := by decide
 have e5 : Ieee.double.fractionBits = 52 := rfl
 have hb := Nat.two_pow_pos b
 unfold Ieee.Format.nearest
 rcases Nat.eq_zero_or_pos m with h0 | h0
 ·subst h0
  rw [if_pos rfl]
  have : rnd (0 * 2 ^ a) (2 ^ b) = 0 := by
   unfold rnd
   rw [Nat.zero_mul, ediv_zero]
   unfold rplace
   rw [Nat.zero_div]
   rfl
  rw [this]
 ·rw [if_neg (by omega), e2, e3, e4, e5]
  obtain ⟨L, hL⟩ : ∃ L, m.log2 = L := ⟨_, rfl⟩
  obtain ⟨a1, a2⟩ := log2_two m h0
  rw [hL] at a1 a2 ⊢
  obtain ⟨p, hp⟩ : ∃ p, max (e + (L : Int) - (52 : Nat)) (-1074) = p := ⟨_, rfl⟩
  rw [hp]
  dsimp only
  rw [cut_sgn]
  obtain ⟨D, hD⟩ : ∃ D, (p - -1074).toNat = D := ⟨_, rfl⟩
  rw [hD]
  -- the place
  have hpl : rplace (m * 2 ^ a) (2 ^ b) = D := by
   refine rplace_of hb ?_ ?_
   ·rcases Nat.eq_zero_or_pos D with h1 | h1
    ·exact Or.inl h1
    ·refine Or.inr ?_
     rw [show (4503599627370496 : Nat) = 2 ^ 52 from rfl, ← Nat.pow_add, ← Nat.pow_add]
     refine Nat.le_trans ?_ (Nat.mul_le_mul_right _ a1)
     rw [← Nat.pow_add]
     exact Nat.pow_le_pow_right (by omega) (by omega)
   ·refine Nat.lt_of_lt_of_le (Nat.mul_lt_mul_of_pos_right a2 (Nat.two_pow_pos a)) ?_
    rw [show (9007199254740992 : Nat) = 2 ^ 53 from rfl, ← Nat.pow_add, ← Nat.pow_add, ← Nat.pow_add]
    exact Nat.pow_le_pow_right (by omega) (by omega)
  unfold rnd
  rw [hpl]
  have hc : Ieee.Toward.even.cut false (m <<< (e - p).toNat) (p - e).toNat = ediv (m * 2 ^ a) (2 ^ D * 2 ^ b) := by
   rw [cut_all _ _ (by rw [Nat.shiftLeft_eq]; exact Nat.mul_pos h0 (Nat.two_pow_pos _)), Nat.shiftLeft_eq, ← ediv_evn]
   obtain ⟨x, hx⟩ : ∃ x : Nat, (e - p).toNat = x := ⟨_, rfl⟩
   obtain ⟨y, hy⟩ : ∃ y : Nat, (p - e).toNat = y := ⟨_, rfl⟩
   rw [hx, hy, ← Nat.pow_add]
   -- a + y = D + b + x: scale both sides
   rcases Nat.le_total a x with h | h
   ·obtain ⟨k, rfl⟩ : ∃ k, x = a + k := ⟨x - a, by omega⟩
    have : y = D + b + k := by omega
    rw [this, Nat.pow_add 2 a k, Nat.pow_add 2 (D + b) k, ← Nat.mul_assoc, ediv_scale (Nat.two_pow_pos k)]
   ·obtain ⟨k, rfl⟩ : ∃ k, a = x + k := ⟨a - x, by omega⟩
    have : D + b = y + k := by omega
    rw [this, Nat.pow_add 2 x k, Nat.pow_add 2 y k, ← Nat.mul_assoc, ediv_scale (Nat.two_pow_pos k)]
  rw [hc]
theorem ediv_sticky {N n q t d : Nat} (hN : N = q * n + t) (h0 : 0 < t) (ht : t < n) (hd : 0 < d) : ediv N (n * 2 ^ d) = q / 2 ^ d + (decide (2 ^ d ≤ 2 * (q % 2 ^ d))).toNat := by
 obtain ⟨c, rfl⟩ : ∃ c, d = c + 1 := ⟨d - 1, by omega⟩
 have hP : 2 ^ (c + 1) = 2 * 2 ^ c := by rw [Nat.pow_succ, Nat.mul_comm]
 have hc := Nat.two_pow_pos c
 have e1 := Nat.div_add_mod q (2 ^ (c + 1))
 have e2 := Nat.mod_lt q (Nat.two_pow_pos (c + 1))
 obtain ⟨Q, hQ⟩ : ∃ Q, q / 2 ^ (c + 1) = Q := ⟨_, rfl⟩
 obtain ⟨r, hr⟩ : ∃ r, q % 2 ^ (c + 1) = r := ⟨_, rfl⟩
 rw [hQ, hr] at e1
 rw [hr] at e2
 rw [hQ, hr]
 have hlt : r * n + t < n * 2 ^ (c + 1) := by
  have : (r + 1) * n ≤ 2 ^ (c + 1) * n := Nat.mul_le_mul_right _ e2
  rw [Nat.add_mul, Nat.one_mul, Nat.mul_comm (2 ^ (c + 1))] at this
  omega
 have hNN : N = n * 2 ^ (c + 1) * Q + (r * n + t) := by rw [hN, ← e1]; grind
 have hdiv : N / (n * 2 ^ (c + 1)) = Q := by
  rw [hNN, Nat.mul_add_div (by omega), Nat.div_eq_of_lt hlt, Nat.add_zero]
 have hmod : N % (n * 2 ^ (c + 1)) = r * n + t := by
  rw [hNN, Nat.mul_add_mod, Nat.mod_eq_of_lt hlt]
 unfold ediv
 rw [hdiv, hmod, hP]
 have k1 : n * (2 * 2 ^ c) < 2 * (r * n + t) ↔ 2 ^ c ≤ r := by
  constructor
  ·intro h
   rcases Nat.lt_or_ge r (2 ^ c) with h1 | h1
   ·exfalso
    have : (r + 1) * n ≤ 2 ^ c * n := Nat.mul_le_mul_right _ h1
    rw [Nat.add_mul, Nat.one_mul] at this
    have e3 : n * (2 * 2 ^ c) = 2 * (2 ^ c * n) := by grind
    omega
   ·exact h1
  ·intro h
   have : 2 ^ c * n ≤ r * n := Nat.mul_le_mul_right _ h
   have e3 : n * (2 * 2 ^ c) = 2 * (2 ^ c * n) := by grind
   omega
 have k2 : ¬ n * (2 * 2 ^ c) = 2 * (r * n + t) := by
  intro h
  have e3 : n * (2 * 2 ^ c) = 2 * (2 ^ c * n) := by grind
  have h4 : 2 ^ c * n = r * n + t := by omega
  rcases Nat.lt_or_ge r (2 ^ c) with h1 | h1
  ·have : (r + 1) * n ≤ 2 ^ c * n := Nat.mul_le_mul_right _ h1
   rw [Nat.add_mul, Nat.one_mul] at this
   omega
  ·have : 2 ^ c * n ≤ r * n := Nat.mul_le_mul_right _ h1
   omega
 rw [decide_eq_false k2, Bool.false_and, Bool.or_false]
 congr 2
 exact decide_eq_decide.2 (k1.trans (by omega))
theorem ediv_twice {q d : Nat} (hd : 0 < d) : ediv (2 * q + 1) (2 * 2 ^ d) = q / 2 ^ d + (decide (2 ^ d ≤ 2 * (q % 2 ^ d))).toNat := by
 have h := ediv_sticky (N := 2 * q + 1) (n := 2) (q := q) (t := 1) (d := d) (by omega) (by omega) (by omega) hd
 exact h
theorem ediv_or {q d : Nat} (hd : 1 < d) : ediv (q ||| 1) (2 ^ d) = q / 2 ^ d + (decide (2 ^ d ≤ 2 * (q % 2 ^ d))).toNat := by
 have ho : q ||| 1 = 2 * (q / 2) + 1 := by
  have h1 : q ||| 1 = (q / 2) * 2 + 1 := by
   have h2 : (q ||| 1) / 2 = q / 2 := by rw [Nat.or_div_two]; simp
   have h3 : (q ||| 1) % 2 = 1 := by rw [Nat.or_mod_two_eq_one]; simp
   omega
  omega
 obtain ⟨c, rfl⟩ : ∃ c, d = c + 1 := ⟨d - 1, by omega⟩
 obtain ⟨f, rfl⟩ : ∃ f, c = f + 1 := ⟨c - 1, by omega⟩
 have hP : 2 ^ (f + 1 + 1) = 2 * 2 ^ (f + 1) := by rw [Nat.pow_succ, Nat.mul_comm]
 rw [ho, hP, ediv_twice (by omega)]
 have hP2 : 2 ^ (f + 1) = 2 * 2 ^ f := by rw [Nat.pow_succ, Nat.mul_comm]
 have hf := Nat.two_pow_pos f
 have e1 : q / 2 / 2 ^ (f + 1) = q / (2 * 2 ^ (f + 1)) := by rw [Nat.div_div_eq_div_mul]
 have e2 : q % (2 * 2 ^ (f + 1)) = q % 2 + 2 * (q / 2 % 2 ^ (f + 1)) := Nat.mod_mul
 rw [e1, e2]
 congr 2
 refine decide_eq_decide.2 ?_
 have := Nat.mod_lt q (show 0 < 2 by omega)
 rw [hP2]
 generalize q / 2 % (2 * 2 ^ f) = r
 omega

end Go.Proofs.YtjmplgbhjpldbaaGreatDoor
namespace Go.Proofs.YtjmplgbhjpldbaaGreatDoor
theorem rplace_spec {u v D : Nat} (hv : 0 < v) (h : rplace u v = D) : (D = 0 ∨ 4503599627370496 * 2 ^ D * v ≤ u) ∧ u < 9007199254740992 * 2 ^ D * v := by
 unfold rplace at h
 rcases Nat.eq_zero_or_pos (u / v) with h0 | h0
 ·rw [h0, show Nat.log2 0 = 0 by decide] at h
  have hD : D = 0 := by omega
  refine ⟨Or.inl hD, ?_⟩
  have h1 : u < v := by
   rcases Nat.lt_or_ge u v with h2 | h2
   ·exact h2
   ·have := (Nat.le_div_iff_mul_le hv).2 (show 1 * v ≤ u by omega)
    omega
  rw [hD, Nat.pow_zero, Nat.mul_one]
  omega
 ·obtain ⟨a1, a2⟩ := log2_two _ h0
  constructor
  ·rcases Nat.eq_zero_or_pos D with h1 | h1
   ·exact Or.inl h1
   ·refine Or.inr ((Nat.le_div_iff_mul_le hv).1 ?_)
    rw [show (4503599627370496 : Nat) = 2 ^ 52 from rfl, ← Nat.pow_add, show 52 + D = (u / v).log2 by omega]
    exact a1
  ·refine (Nat.div_lt_iff_lt_mul hv).1 (Nat.lt_of_lt_of_le a2 ?_)
   rw [show (9007199254740992 : Nat) = 2 ^ 53 from rfl, ← Nat.pow_add]
   exact Nat.pow_le_pow_right (by omega) (by omega)
theorem quot_le {N n q t C : Nat} (hN : N = q * n + t) (ht : t < n) : C * n ≤ N ↔ C ≤ q := by
 constructor
 ·intro h
  rcases Nat.lt_or_ge q C with h1 | h1
  ·have : (q + 1) * n ≤ C * n := Nat.mul_le_mul_right _ h1
   rw [Nat.add_mul, Nat.one_mul] at this
   omega
  ·exact h1
 ·intro h
  have : C * n ≤ q * n := Nat.mul_le_mul_right _ h
  omega
theorem rnd_quot {N n q t s A B D d : Nat} (hn : 0 < n) (hN : N = q * n + t) (ht : t < n) (hs : s = if t = 0 then 0 else 1) (hD : rplace (N * 2 ^ A) (2 ^ B * n) = D) (hd : D + B = A + d) (hd0 : 0 < d) :
  rnd ((2 * q + s) * 2 ^ A) (2 ^ (B + 1)) = rnd (N * 2 ^ A) (2 ^ B * n) ∧ (1 < d → rnd ((q ||| s) * 2 ^ A) (2 ^ B) = rnd (N * 2 ^ A) (2 ^ B * n)) := by
 have hA := Nat.two_pow_pos A
 have hB := Nat.two_pow_pos B
 have hDB : 2 ^ D * 2 ^ B = 2 ^ d * 2 ^ A := by rw [← Nat.pow_add, ← Nat.pow_add, hd, Nat.add_comm]
 obtain ⟨s1, s2⟩ := rplace_spec (Nat.mul_pos hB hn) hD
 have hs1 : s ≤ 1 := by rw [hs]; split <;> omega
 -- where the quotient lies
 have cN : ∀ C, C * 2 ^ D * (2 ^ B * n) = C * 2 ^ d * n * 2 ^ A := by
  intro C
  have : C * 2 ^ D * (2 ^ B * n) = C * n * (2 ^ D * 2 ^ B) := by grind
  rw [this, hDB]; grind
 rw [cN] at s1 s2
 have q1 : D = 0 ∨ 4503599627370496 * 2 ^ d ≤ q := by
  rcases s1 with h | h
  ·exact Or.inl h
  ·exact Or.inr ((quot_le hN ht).1 (Nat.le_of_mul_le_mul_right h hA))
 have q2 : q < 9007199254740992 * 2 ^ d := by
  have h1 := Nat.lt_of_mul_lt_mul_right s2
  rcases Nat.lt_or_ge q (9007199254740992 * 2 ^ d) with h | h
  ·exact h
  ·have := (quot_le hN ht).2 h
   omega
 have hR : rnd (N * 2 ^ A) (2 ^ B * n) = min (D * 4503599627370496 + ediv N (n * 2 ^ d)) 9218868437227405312 := by
  unfold rnd
  rw [hD]
  have : 2 ^ D * (2 ^ B * n) = n * 2 ^ d * 2 ^ A := by
   have e : 2 ^ D * (2 ^ B * n) = 2 ^ D * 2 ^ B * n := by grind
   rw [e, hDB]; grind
  rw [this, ediv_scale hA]
 constructor
 ·have hp : rplace ((2 * q + s) * 2 ^ A) (2 ^ (B + 1)) = D := by
   refine rplace_of (Nat.two_pow_pos _) ?_ ?_
   ·rcases q1 with h | h
    ·exact Or.inl h
    ·refine Or.inr ?_
     have e : 4503599627370496 * 2 ^ D * 2 ^ (B + 1) = 2 * (4503599627370496 * 2 ^ d) * 2 ^ A := by
      rw [Nat.pow_succ]
      have : 4503599627370496 * 2 ^ D * (2 ^ B * 2) = 2 * 4503599627370496 * (2 ^ D * 2 ^ B) := by grind
      rw [this, hDB]; grind
     rw [e]
     exact Nat.mul_le_mul_right _ (by omega)
   ·have e : 9007199254740992 * 2 ^ D * 2 ^ (B + 1) = 2 * (9007199254740992 * 2 ^ d) * 2 ^ A := by
     rw [Nat.pow_succ]
     have : 9007199254740992 * 2 ^ D * (2 ^ B * 2) = 2 * 9007199254740992 * (2 ^ D * 2 ^ B) := by grind
     rw [this, hDB]; grind
    rw [e]
    exact Nat.mul_lt_mul_of_pos_right (by omega) hA
  rw [hR]
  unfold rnd
  rw [hp]
  have e : 2 ^ D * 2 ^ (B + 1) = 2 * 2 ^ d * 2 ^ A := by
   rw [Nat.pow_succ]
   have : 2 ^ D * (2 ^ B * 2) = 2 * (2 ^ D * 2 ^ B) := by grind
   rw [this, hDB]; grind
  rw [e, ediv_scale hA]
  congr 2
  by_cases h0 : t = 0
  ·rw [hs, if_pos h0, Nat.add_zero, hN, h0, Nat.add_zero, Nat.mul_comm n, ediv_scale hn, Nat.mul_comm 2 q, Nat.mul_comm 2 (2 ^ d), ediv_scale (by omega)]
  ·rw [hs, if_neg h0, ediv_twice hd0, ediv_sticky hN (by omega) ht hd0]
 ·intro hd1
  have hor : q ≤ q ||| s ∧ q ||| s ≤ q + 1 := by
   rcases Nat.eq_zero_or_pos s with h | h
   ·rw [h, Nat.or_zero]; omega
   ·have e1 : s = 1 := by omega
    rw [e1]
    have h2 : (q ||| 1) / 2 = q / 2 := by rw [Nat.or_div_two]; simp
    have h3 : (q ||| 1) % 2 = 1 := by rw [Nat.or_mod_two_eq_one]; simp
    omega
  have hup : q ||| s < 9007199254740992 * 2 ^ d := by
   rcases Nat.eq_zero_or_pos s with h | h
   ·rw [h, Nat.or_zero]; exact q2
   ·have e1 : s = 1 := by omega
    rw [e1]
    have h2 : (q ||| 1) / 2 = q / 2 := by rw [Nat.or_div_two]; simp
    obtain ⟨f, rfl⟩ : ∃ f, d = f + 1 := ⟨d - 1, by omega⟩
    rw [Nat.pow_succ] at q2 ⊢
    omega
  have hp : rplace ((q ||| s) * 2 ^ A) (2 ^ B) = D := by
   have e : ∀ C, C * 2 ^ D * 2 ^ B = C * 2 ^ d * 2 ^ A := by intro C; rw [Nat.mul_assoc, hDB, Nat.mul_assoc]
   refine rplace_of hB ?_ ?_
   ·rcases q1 with h | h
    ·exact Or.inl h
    ·exact Or.inr (by rw [e]; exact Nat.mul_le_mul_right _ (by omega))
   ·rw [e]; exact Nat.mul_lt_mul_of_pos_right hup hA
  rw [hR]
  unfold rnd
  rw [hp, hDB, ediv_scale hA]
  congr 2
  by_cases h0 : t = 0
  ·rw [hs, if_pos h0, Nat.or_zero, hN, h0, Nat.add_zero, Nat.mul_comm n, ediv_scale hn]
  ·rw [hs, if_neg h0, ediv_or hd1, ediv_sticky hN (by omega) ht hd0]

end Go.Proofs.YtjmplgbhjpldbaaGreatDoor
namespace Go.Proofs.YtjmplgbhjpldbaaGreatDoor
theorem ediv_half {u W a : Nat} (h1 : a * W < 2 * u) (h2 : 2 * u < (a + 1) * W) : ediv u W = a / 2 + a % 2 := by
 have hW : 0 < W := by
  rcases Nat.eq_zero_or_pos W with h | h
  ·rw [h, Nat.mul_zero] at h2; omega
  ·exact h
 have e1 := Nat.div_add_mod u W
 have e2 := Nat.mod_lt u hW
 obtain ⟨q, hq⟩ : ∃ q, a / 2 = q := ⟨_, rfl⟩
 have key : u / W = q := by
  have l1 : q ≤ u / W := by
   rw [Nat.le_div_iff_mul_le hW]
   have : 2 * q * W ≤ a * W := Nat.mul_le_mul_right _ (by omega)
   have e : 2 * q * W = 2 * (q * W) := Nat.mul_assoc _ _ _
   omega
  have l2 : u / W < q + 1 := by
   rw [Nat.div_lt_iff_lt_mul hW]
   have : (a + 1) * W ≤ 2 * (q + 1) * W := Nat.mul_le_mul_right _ (by omega)
   have e : 2 * (q + 1) * W = 2 * ((q + 1) * W) := Nat.mul_assoc _ _ _
   omega
  omega
 unfold ediv
 rw [key, hq]
 rw [key] at e1
 generalize u % W = r at *
 rcases Nat.mod_two_eq_zero_or_one a with hp | hp
 ·have ha : a = 2 * q := by omega
  rw [ha, Nat.add_mul, Nat.one_mul, Nat.mul_assoc] at h2
  rw [Nat.mul_comm W q] at e1
  rw [hp, decide_eq_false (by omega), decide_eq_false (by omega)]
  rfl
 ·have ha : a = 2 * q + 1 := by omega
  rw [ha, Nat.add_mul, Nat.one_mul, Nat.mul_assoc] at h1
  rw [Nat.mul_comm W q] at e1
  rw [hp, decide_eq_true (by omega)]
  rfl
def NoMark (u v u' v' : Nat) : Prop := ∀ c D, c ≤ 18014398509481984 → 2 * u ≤ c * 2 ^ D * v → c * 2 ^ D * v' ≤ 2 * u' → False
theorem rnd_same {u v u' v' : Nat} (hv : 0 < v) (hv' : 0 < v') (hle : u * v' ≤ u' * v) (H : NoMark u v u' v') : rnd u v = rnd u' v' := by
 obtain ⟨D, hD⟩ : ∃ D, rplace u v = D := ⟨_, rfl⟩
 obtain ⟨s1, s2⟩ := rplace_spec hv hD
 have hp := Nat.two_pow_pos D
 -- the place is the same
 have hD' : rplace u' v' = D := by
  refine rplace_of hv' ?_ ?_
  ·rcases s1 with h | h
   ·exact Or.inl h
   ·refine Or.inr (Nat.le_of_mul_le_mul_right (c := v) ?_ hv)
    have a1 : 4503599627370496 * 2 ^ D * v * v' ≤ u * v' := Nat.mul_le_mul_right _ h
    have e : 4503599627370496 * 2 ^ D * v' * v = 4503599627370496 * 2 ^ D * v * v' := by grind
    omega
  ·rcases Nat.lt_or_ge u' (9007199254740992 * 2 ^ D * v') with h | h
   ·exact h
   ·exfalso
    rw [Nat.mul_assoc] at s2 h
    refine H 18014398509481984 D (Nat.le_refl _) ?_ ?_
    ·rw [Nat.mul_assoc]
     generalize 2 ^ D * v = X at *
     omega
    ·rw [Nat.mul_assoc]
     generalize 2 ^ D * v' = X at *
     omega
 -- and so are the halves
 obtain ⟨a, ha⟩ : ∃ a, 2 * u / (2 ^ D * v) = a := ⟨_, rfl⟩
 have hW : 0 < 2 ^ D * v := Nat.mul_pos hp hv
 have m1 := Nat.div_add_mod (2 * u) (2 ^ D * v)
 have m2 := Nat.mod_lt (2 * u) hW
 rw [ha] at m1
 have b1 : a * (2 ^ D * v) ≤ 2 * u := by rw [Nat.mul_comm a]; omega
 have b2 : 2 * u < (a + 1) * (2 ^ D * v) := by rw [Nat.add_mul, Nat.one_mul, Nat.mul_comm a]; omega
 have ha54 : a + 1 ≤ 18014398509481984 := by
  have h3 : a * (2 ^ D * v) < 18014398509481984 * (2 ^ D * v) := by
   have e : 18014398509481984 * (2 ^ D * v) = 2 * (9007199254740992 * 2 ^ D * v) := by grind
   omega
  have := Nat.lt_of_mul_lt_mul_right h3
  omega
 have sc : ∀ c, c * (2 ^ D * v) * v' = c * (2 ^ D * v') * v := by intro c; grind
 have up : ∀ c, c * (2 ^ D * v) ≤ 2 * u → c * (2 ^ D * v') ≤ 2 * u' := by
  intro c hc
  refine Nat.le_of_mul_le_mul_right (c := v) ?_ hv
  rw [← sc]
  have a1 : c * (2 ^ D * v) * v' ≤ 2 * u * v' := Nat.mul_le_mul_right _ hc
  have e1 : 2 * u * v' = 2 * (u * v') := Nat.mul_assoc _ _ _
  have e2 : 2 * u' * v = 2 * (u' * v) := Nat.mul_assoc _ _ _
  omega
 have c1 : a * (2 ^ D * v) < 2 * u := by
  rcases Nat.eq_or_lt_of_le b1 with h | h
  ·exfalso
   exact H a D (by omega) (by rw [Nat.mul_assoc, h]; exact Nat.le_refl _) (by rw [Nat.mul_assoc]; exact up a (Nat.le_of_eq h))
  ·exact h
 have c3 : 2 * u' < (a + 1) * (2 ^ D * v') := by
  rcases Nat.lt_or_ge (2 * u') ((a + 1) * (2 ^ D * v')) with h | h
  ·exact h
  ·exfalso
   exact H (a + 1) D ha54 (by rw [Nat.mul_assoc]; exact Nat.le_of_lt b2) (by rw [Nat.mul_assoc]; exact h)
 have c2 : a * (2 ^ D * v') < 2 * u' := by
  refine Nat.lt_of_mul_lt_mul_right (a := v) ?_
  rw [← sc]
  have a1 : a * (2 ^ D * v) * v' < 2 * u * v' := Nat.mul_lt_mul_of_pos_right c1 hv'
  have e1 : 2 * u * v' = 2 * (u * v') := Nat.mul_assoc _ _ _
  have e2 : 2 * u' * v = 2 * (u' * v) := Nat.mul_assoc _ _ _
  omega
 unfold rnd
 rw [hD, hD', ediv_half c1 b2, ediv_half c2 c3]
set_option exponentiation.threshold 2000 in
theorem half_digits : ∀ K T : Nat, K = 1075 → T = 768 → 18014398509481984 * 5 ^ K < 10 ^ T := by
 intro K T hK hT
 subst hK
 subst hT
 decide +kernel
theorem mark_dec {c D K T : Nat} (hK : K = 1075) (hT : T = 768) (hc : c ≤ 18014398509481984) : ∃ C f : Nat, c * 2 ^ D * 10 ^ f = C * 2 ^ K ∧ (D < K → C < 10 ^ T) ∧ (K ≤ D → f = 0) := by
 rcases Nat.lt_or_ge D K with h | h
 ·obtain ⟨j, hj⟩ : ∃ j, K = D + j := ⟨K - D, by omega⟩
  refine ⟨c * 5 ^ j, j, ?_, fun _ => ?_, fun h2 => absurd h (by omega)⟩
  ·rw [hj, Nat.pow_add, show (10 : Nat) = 5 * 2 from rfl, Nat.mul_pow]
   grind
  ·refine Nat.lt_of_le_of_lt (Nat.le_trans (Nat.mul_le_mul_right _ hc) (Nat.mul_le_mul_left _ (Nat.pow_le_pow_right (by omega) (show j ≤ K by omega)))) (half_digits K T hK hT)
 ·obtain ⟨j, hj⟩ : ∃ j, D = K + j := ⟨D - K, by omega⟩
  refine ⟨c * 2 ^ j, 0, ?_, fun h2 => absurd h (by omega), fun _ => rfl⟩
  rw [hj, Nat.pow_add, Nat.pow_zero, Nat.mul_one]
  grind
theorem gap_free {p s t c D K T : Nat} (hK : K = 1075) (hT : T = 768) (hp : 10 ^ T ≤ p) (hc : c ≤ 18014398509481984) (h1 : p * 10 ^ s * 2 ^ K < c * 2 ^ D * 10 ^ t) (h2 : c * 2 ^ D * 10 ^ t < (p + 1) * 10 ^ s * 2 ^ K) (htop : (p + 1) * 10 ^ s ≤ 10 ^ T * 10 ^ t) : False := by
 obtain ⟨C, f, e1, e2, e3⟩ := mark_dec (D := D) hK hT hc
 have hTt := Nat.pow_pos (n := t) (show 0 < 10 by omega)
 have hF := Nat.pow_pos (n := f) (show 0 < 10 by omega)
 have hS := Nat.pow_pos (n := s) (show 0 < 10 by omega)
 have hU := Nat.two_pow_pos K
 -- in terms of C: p * 10^s * 10^f < C * 10^t < (p+1) * 10^s * 10^f
 have g1 : p * 10 ^ s * 10 ^ f < C * 10 ^ t := by
  refine Nat.lt_of_mul_lt_mul_right (a := 2 ^ K) ?_
  have a1 : p * 10 ^ s * 2 ^ K * 10 ^ f < c * 2 ^ D * 10 ^ t * 10 ^ f := Nat.mul_lt_mul_of_pos_right h1 hF
  have x1 : p * 10 ^ s * 10 ^ f * 2 ^ K = p * 10 ^ s * 2 ^ K * 10 ^ f := by grind
  have x2 : C * 10 ^ t * 2 ^ K = c * 2 ^ D * 10 ^ t * 10 ^ f := by
   have : c * 2 ^ D * 10 ^ t * 10 ^ f = c * 2 ^ D * 10 ^ f * 10 ^ t := by grind
   rw [this, e1]; grind
  omega
 have g2 : C * 10 ^ t < (p + 1) * 10 ^ s * 10 ^ f := by
  refine Nat.lt_of_mul_lt_mul_right (a := 2 ^ K) ?_
  have a1 : c * 2 ^ D * 10 ^ t * 10 ^ f < (p + 1) * 10 ^ s * 2 ^ K * 10 ^ f := Nat.mul_lt_mul_of_pos_right h2 hF
  have x1 : (p + 1) * 10 ^ s * 10 ^ f * 2 ^ K = (p + 1) * 10 ^ s * 2 ^ K * 10 ^ f := by grind
  have x2 : C * 10 ^ t * 2 ^ K = c * 2 ^ D * 10 ^ t * 10 ^ f := by
   have : c * 2 ^ D * 10 ^ t * 10 ^ f = c * 2 ^ D * 10 ^ f * 10 ^ t := by grind
   rw [this, e1]; grind
  omega
 have hC : C < 10 ^ T := by
  rcases Nat.lt_or_ge D K with h | h
  ·exact e2 h
  ·rw [e3 h, Nat.pow_zero, Nat.mul_one] at g2
   refine Nat.lt_of_mul_lt_mul_right (a := 10 ^ t) ?_
   omega
 rcases Nat.lt_or_ge (s + f) t with h | h
 ·-- p < C * 10^(t-s-f) < p + 1
  obtain ⟨j, hj⟩ : ∃ j, t = s + f + j := ⟨t - s - f, by omega⟩
  rw [hj, Nat.pow_add, Nat.pow_add] at g1 g2
  have y1 : C * (10 ^ s * 10 ^ f * 10 ^ j) = C * 10 ^ j * (10 ^ s * 10 ^ f) := by grind
  have y2 : (p + 1) * 10 ^ s * 10 ^ f = (p + 1) * (10 ^ s * 10 ^ f) := Nat.mul_assoc _ _ _
  have y3 : p * 10 ^ s * 10 ^ f = p * (10 ^ s * 10 ^ f) := Nat.mul_assoc _ _ _
  rw [y1, y2] at g2
  rw [y1, y3] at g1
  have z1 := Nat.lt_of_mul_lt_mul_right g1
  have z2 := Nat.lt_of_mul_lt_mul_right g2
  omega
 ·obtain ⟨j, hj⟩ : ∃ j, s + f = t + j := ⟨s + f - t, by omega⟩
  rw [Nat.mul_assoc, ← Nat.pow_add, hj, Nat.pow_add] at g1
  have y1 : p * (10 ^ t * 10 ^ j) = p * 10 ^ j * 10 ^ t := by grind
  rw [y1] at g1
  have z1 := Nat.lt_of_mul_lt_mul_right g1
  have z2 : p * 1 ≤ p * 10 ^ j := Nat.mul_le_mul_left _ (Nat.pow_pos (by omega))
  omega

end Go.Proofs.YtjmplgbhjpldbaaGreatDoor
namespace Go.Proofs.YtjmplgbhjpldbaaGreatDoor
theorem ediv_mono {u u' W : Nat} (h : u ≤ u') : ediv u W ≤ ediv u' W := by
 have e1 := Nat.div_add_mod u W
 have e2 := Nat.div_add_mod u' W
 have hq : u / W ≤ u' / W := Nat.div_le_div_right h
 unfold ediv
 have hb : ∀ b : Bool, b.toNat ≤ 1 := Bool.toNat_le
 rcases Nat.eq_or_lt_of_le hq with h1 | h1
 ·rw [h1] at e1 ⊢
  have hr : u % W ≤ u' % W := by omega
  refine Nat.add_le_add_left ?_ _
  generalize u % W = r at *
  generalize u' % W = r' at *
  generalize u' / W = q at *
  by_cases c1 : W < 2 * r'
  ·rw [decide_eq_true c1, Bool.true_or]
   exact hb _
  ·rw [decide_eq_false c1, decide_eq_false (show ¬ W < 2 * r by omega), Bool.false_or, Bool.false_or]
   by_cases c2 : W = 2 * r
   ·rw [decide_eq_true c2, decide_eq_true (show W = 2 * r' by omega)]
    exact Nat.le_refl _
   ·rw [decide_eq_false c2, Bool.false_and]
    exact Nat.zero_le _
 ·have := hb (decide (W < 2 * (u % W)) || (decide (W = 2 * (u % W)) && decide (u / W % 2 = 1)))
  omega
theorem rnd_mono_one {u u' v : Nat} (hv : 0 < v) (h : u ≤ u') : rnd u v ≤ rnd u' v := by
 obtain ⟨D, hD⟩ : ∃ D, rplace u v = D := ⟨_, rfl⟩
 obtain ⟨D', hD'⟩ : ∃ D', rplace u' v = D' := ⟨_, rfl⟩
 have hDD : D ≤ D' := by
  rw [← hD, ← hD']
  unfold rplace
  have h1 : u / v ≤ u' / v := Nat.div_le_div_right h
  rcases Nat.eq_zero_or_pos (u / v) with h0 | h0
  ·rw [h0, show Nat.log2 0 = 0 by decide]; omega
  ·have a1 := (log2_two _ h0).1
   have := (Nat.le_log2 (show u' / v ≠ 0 by omega)).2 (Nat.le_trans a1 h1)
   omega
 obtain ⟨s1, s2⟩ := rplace_spec hv hD
 obtain ⟨s1', s2'⟩ := rplace_spec hv hD'
 unfold rnd
 rw [hD, hD']
 refine Nat.le_min.2 ⟨Nat.le_trans (Nat.min_le_left _ _) ?_, Nat.min_le_right _ _⟩
 rcases Nat.eq_or_lt_of_le hDD with h1 | h1
 ·rw [← h1]
  have hm := ediv_mono (W := 2 ^ D * v) h
  exact Nat.add_le_add_left hm _
 ·have c1 : ediv u (2 ^ D * v) ≤ 9007199254740992 := ediv_le (Nat.mul_pos (Nat.two_pow_pos D) hv) (by rw [← Nat.mul_assoc]; exact Nat.le_of_lt s2)
  have c2 : 4503599627370496 ≤ ediv u' (2 ^ D' * v) := ediv_ge (Nat.mul_pos (Nat.two_pow_pos D') hv) (by rw [← Nat.mul_assoc]; exact s1'.resolve_left (by omega))
  have c3 : (D + 1) * 4503599627370496 ≤ D' * 4503599627370496 := Nat.mul_le_mul_right _ h1
  generalize ediv u (2 ^ D * v) = x at *
  generalize ediv u' (2 ^ D' * v) = y at *
  omega
end Go.Proofs.YtjmplgbhjpldbaaGreatDoor
namespace Go.Proofs.YtjmplgbhjpldbaaGreatDoor
theorem rung_parts (r : Nat) : ∃ D c, r = D * 4503599627370496 + c ∧ c < 9007199254740992 ∧ (D = 0 ∨ 4503599627370496 ≤ c) ∧ fmag r = c * 2 ^ D ∧ fmag (r + 1) = (c + 1) * 2 ^ D := by
 obtain ⟨c, D, h1, h2, h3, h4⟩ := fmag_form r
 refine ⟨D, c, h1, h3, h4, h2, ?_⟩
 rcases Nat.eq_or_lt_of_le (show c + 1 ≤ 9007199254740992 by omega) with h | h
 ·have e : r + 1 = (D + 1) * 4503599627370496 + 4503599627370496 := by omega
  rw [e, fmag_make _ _ (by omega) (by omega), h, Nat.pow_succ, Nat.mul_comm (2 ^ D) 2, ← Nat.mul_assoc]
 ·rcases h4 with h5 | h5
  ·have e : r + 1 = c + 1 := by rw [h1, h5]; omega
   rw [e, h5, Nat.pow_zero, Nat.mul_one]
   exact fmag_low h
  ·have e : r + 1 = D * 4503599627370496 + (c + 1) := by omega
   rw [e, fmag_make _ _ (by omega) h]
theorem rnd_top {u v : Nat} (hv : 0 < v) (h : fmag 9218868437227405312 * v ≤ u) : rnd u v = 9218868437227405312 := by
 have h1 : rnd (fmag 9218868437227405312 * v) v = 9218868437227405312 := by
  obtain ⟨D, c, e1, e2, e3, e4, _⟩ := rung_parts 9218868437227405312
  have hp := Nat.two_pow_pos D
  have hc : 4503599627370496 ≤ c := by
   rcases e3 with h | h
   ·rw [h, Nat.zero_mul, Nat.zero_add] at e1; omega
   ·exact h
  have hpl : rplace (fmag 9218868437227405312 * v) v = D := by
   rw [e4]
   refine rplace_of hv (Or.inr (Nat.mul_le_mul_right _ (Nat.mul_le_mul_right _ hc))) (Nat.mul_lt_mul_of_pos_right (Nat.mul_lt_mul_of_pos_right e2 hp) hv)
  unfold rnd
  rw [hpl, e4, Nat.mul_assoc]
  have : c ≤ ediv (c * (2 ^ D * v)) (2 ^ D * v) := ediv_ge (Nat.mul_pos hp hv) (Nat.le_refl _)
  refine Nat.min_eq_right ?_
  rw [e1]
  exact Nat.add_le_add_left this _
 have h2 := rnd_mono_one hv h
 rw [h1] at h2
 have h3 : rnd u v ≤ 9218868437227405312 := Nat.min_le_right _ _
 exact Nat.le_antisymm h3 h2
end Go.Proofs.YtjmplgbhjpldbaaGreatDoor
namespace Go.Proofs.YtjmplgbhjpldbaaGreatDoor
theorem rnd_cross {u v u' v' : Nat} (hv : 0 < v) (hv' : 0 < v') (h : u * v' = u' * v) : rnd u v = rnd u' v' := by
 rw [← rnd_scale (u := u) (v := v) hv', ← rnd_scale (u := u') (v := v') hv, h, Nat.mul_comm v' v]
end Go.Proofs.YtjmplgbhjpldbaaGreatDoor
namespace Go.Proofs.YtjmplgbhjpldbaaGreatDoor
end Go.Proofs.YtjmplgbhjpldbaaGreatDoor
namespace Go.Proofs.YtjmplgbhjpldbaaGreatDoor
def decR (N : Nat) (e : Int) : Nat := rnd (N * 10 ^ e.toNat * 2 ^ 1074) (10 ^ (-e).toNat)
theorem decR_K : ∃ K : Nat, K = 1074 ∧ ∀ N e, decR N e = rnd (N * 10 ^ e.toNat * 2 ^ K) (10 ^ (-e).toNat) := ⟨1074, rfl, fun _ _ => rfl⟩
theorem ten_pos (k : Nat) : 0 < 10 ^ k := Nat.pow_pos (by omega)
theorem rnd_tiny {u v : Nat} (h : 2 * u < v) : rnd u v = 0 := by
 have h1 : u / v = 0 := Nat.div_eq_of_lt (by omega)
 have h2 : rplace u v = 0 := by unfold rplace; rw [h1]; rfl
 unfold rnd
 rw [h2, Nat.pow_zero, Nat.one_mul]
 unfold ediv
 rw [h1, Nat.mod_eq_of_lt (by omega), decide_eq_false (by omega), decide_eq_false (by omega)]
 rfl
theorem decR_zero (e : Int) : decR 0 e = 0 := by
 obtain ⟨K, hK, h⟩ := decR_K
 rw [h, Nat.zero_mul, Nat.zero_mul]
 exact rnd_tiny (ten_pos _)
theorem decR_shift (N j : Nat) (e : Int) : decR (N * 10 ^ j) e = decR N (e + j) := by
 obtain ⟨K, hK, h⟩ := decR_K
 rw [h, h]
 refine rnd_cross (ten_pos _) (ten_pos _) ?_
 have e1 : 10 ^ j * 10 ^ e.toNat * 10 ^ (-(e + j)).toNat = 10 ^ (e + j).toNat * 10 ^ (-e).toNat := by
  rw [← Nat.pow_add, ← Nat.pow_add, ← Nat.pow_add]
  congr 1
  omega
 generalize 10 ^ j = x at *
 generalize 10 ^ e.toNat = y at *
 generalize 10 ^ (-(e + j)).toNat = z at *
 generalize 10 ^ (e + j).toNat = p at *
 generalize 10 ^ (-e).toNat = q at *
 generalize 2 ^ K = U at *
 have h1 : N * x * y * U * z = N * (x * y * z) * U := by grind
 have h2 : N * p * U * q = N * (p * q) * U := by grind
 rw [h1, h2, e1]
set_option exponentiation.threshold 2000 in
theorem two_ten : ∀ K T : Nat, K = 1075 → T = 324 → 2 ^ K < 10 ^ T := by
 intro K T hK hT
 subst hK
 subst hT
 decide +kernel
set_option exponentiation.threshold 2000 in
theorem ten_two : ∀ K T : Nat, K = 1024 → T = 309 → 2 ^ K ≤ 10 ^ T := by
 intro K T hK hT
 subst hK
 subst hT
 decide +kernel
theorem decR_tiny {N L : Nat} {e : Int} (hN : N < 10 ^ L) (h : (L : Int) + e ≤ -324) : decR N e = 0 := by
 obtain ⟨K, hK, hd⟩ := decR_K
 rw [hd, show e.toNat = 0 by omega, Nat.pow_zero, Nat.mul_one]
 refine rnd_tiny ?_
 obtain ⟨T, hT⟩ : ∃ T : Nat, T = 324 := ⟨_, rfl⟩
 have h1 := two_ten (K + 1) T (by omega) hT
 have h2 : 10 ^ L * 10 ^ T ≤ 10 ^ (-e).toNat := by
  rw [← Nat.pow_add]
  exact Nat.pow_le_pow_right (by omega) (by omega)
 rw [Nat.pow_succ] at h1
 refine Nat.lt_of_lt_of_le ?_ h2
 have hL := ten_pos L
 generalize 10 ^ L = x at *
 generalize 10 ^ T = y at *
 generalize 2 ^ K = U at *
 have a1 : N * (U * 2) ≤ x * (U * 2) := Nat.mul_le_mul_right _ (Nat.le_of_lt hN)
 have a2 : x * (U * 2) < x * y := Nat.mul_lt_mul_of_pos_left h1 hL
 have a3 : 2 * (N * U) = N * (U * 2) := by grind
 omega
theorem decR_huge {N M : Nat} {e : Int} (hN : 10 ^ M ≤ N) (h : 309 ≤ (M : Int) + e) : decR N e = 9218868437227405312 := by
 obtain ⟨K, hK, hd⟩ := decR_K
 rw [hd]
 refine rnd_top (ten_pos _) ?_
 obtain ⟨D, hD⟩ : ∃ D : Nat, D = 2046 := ⟨_, rfl⟩
 have e1 := fmag_make 4503599627370496 D (by omega) (by omega)
 rw [show D * 4503599627370496 + 4503599627370496 = 9218868437227405312 by omega] at e1
 rw [e1]
 obtain ⟨T, hT⟩ : ∃ T : Nat, T = 309 := ⟨_, rfl⟩
 have h1 := ten_two (D + 52 - K) T (by omega) hT
 have h2 : 4503599627370496 * 2 ^ D = 2 ^ (D + 52 - K) * 2 ^ K := by
  rw [show (4503599627370496 : Nat) = 2 ^ 52 from rfl, ← Nat.pow_add, ← Nat.pow_add]
  exact congrArg (fun k => 2 ^ k) (show 52 + D = D + 52 - K + K by omega)
 have h3 : 10 ^ T * 10 ^ (-e).toNat ≤ 10 ^ M * 10 ^ e.toNat := by
  rw [← Nat.pow_add, ← Nat.pow_add]
  exact Nat.pow_le_pow_right (by omega) (by omega)
 rw [h2]
 generalize 2 ^ (D + 52 - K) = A at *
 generalize 2 ^ K = U at *
 generalize 10 ^ T = Tn at *
 generalize 10 ^ (-e).toNat = z at *
 generalize 10 ^ M = m at *
 generalize 10 ^ e.toNat = y at *
 have a1 : A * U * z = A * z * U := by grind
 rw [a1]
 refine Nat.mul_le_mul_right _ ?_
 have a2 : A * z ≤ Tn * z := Nat.mul_le_mul_right _ h1
 have a3 : m * y ≤ N * y := Nat.mul_le_mul_right _ hN
 omega
theorem decR_same {N N' p r T : Nat} {e : Int} (hT : T = 768) (hp : 10 ^ T ≤ p) (a1 : p * 10 ^ r < N) (a2 : N < (p + 1) * 10 ^ r) (b1 : p * 10 ^ r < N') (b2 : N' < (p + 1) * 10 ^ r) (htop : (p + 1) * 10 ^ (e + r).toNat ≤ 10 ^ T * 10 ^ (-(e + r)).toNat) : decR N e = decR N' e := by
 have main : ∀ N N' : Nat, N ≤ N' → p * 10 ^ r < N → N' < (p + 1) * 10 ^ r → decR N e = decR N' e := by
  intro N N' hle c1 c2
  obtain ⟨K, hK, hd⟩ := decR_K
  rw [hd, hd]
  refine rnd_same (ten_pos _) (ten_pos _) (Nat.mul_le_mul_right _ (Nat.mul_le_mul_right _ (Nat.mul_le_mul_right _ hle))) ?_
  intro c D hc h1 h2
  have e1 : 10 ^ r * 10 ^ e.toNat * 10 ^ (-(e + r)).toNat = 10 ^ (e + r).toNat * 10 ^ (-e).toNat := by
   rw [← Nat.pow_add, ← Nat.pow_add, ← Nat.pow_add]
   congr 1
   omega
  have hy := ten_pos e.toNat
  have hz := ten_pos (-(e + r)).toNat
  have hq := ten_pos (-e).toNat
  have hU := Nat.two_pow_pos K
  refine gap_free (p := p) (s := (e + r).toNat) (t := (-(e + r)).toNat) (c := c) (D := D) (K := K + 1) (by omega) hT hp hc ?_ ?_ htop
  ·rw [Nat.pow_succ]
   generalize 10 ^ r = x at *
   generalize 10 ^ e.toNat = y at *
   generalize 10 ^ (-(e + r)).toNat = z at *
   generalize 10 ^ (e + r).toNat = s at *
   generalize 10 ^ (-e).toNat = q at *
   generalize 2 ^ K = U at *
   generalize c * 2 ^ D = C at *
   refine Nat.lt_of_mul_lt_mul_right (a := q) ?_
   have g1 : p * x * (y * (U * 2) * z) < N * (y * (U * 2) * z) := Nat.mul_lt_mul_of_pos_right c1 (Nat.mul_pos (Nat.mul_pos hy (by omega)) hz)
   have g2 : 2 * (N * y * U) * z ≤ C * q * z := Nat.mul_le_mul_right _ h1
   have g3 : p * s * (U * 2) * q = p * x * (y * (U * 2) * z) := by
    have : p * s * (U * 2) * q = p * (s * q) * (U * 2) := by grind
    rw [this, ← e1]; grind
   have g4 : N * (y * (U * 2) * z) = 2 * (N * y * U) * z := by grind
   have g5 : C * z * q = C * q * z := by grind
   omega
  ·rw [Nat.pow_succ]
   generalize 10 ^ r = x at *
   generalize 10 ^ e.toNat = y at *
   generalize 10 ^ (-(e + r)).toNat = z at *
   generalize 10 ^ (e + r).toNat = s at *
   generalize 10 ^ (-e).toNat = q at *
   generalize 2 ^ K = U at *
   generalize c * 2 ^ D = C at *
   refine Nat.lt_of_mul_lt_mul_right (a := q) ?_
   have g1 : N' * (y * (U * 2) * z) < (p + 1) * x * (y * (U * 2) * z) := Nat.mul_lt_mul_of_pos_right c2 (Nat.mul_pos (Nat.mul_pos hy (by omega)) hz)
   have g2 : C * q * z ≤ 2 * (N' * y * U) * z := Nat.mul_le_mul_right _ h2
   have g3 : (p + 1) * s * (U * 2) * q = (p + 1) * x * (y * (U * 2) * z) := by
    have : (p + 1) * s * (U * 2) * q = (p + 1) * (s * q) * (U * 2) := by grind
    rw [this, ← e1]; grind
   have g4 : N' * (y * (U * 2) * z) = 2 * (N' * y * U) * z := by grind
   have g5 : C * z * q = C * q * z := by grind
   omega
 rcases Nat.le_total N N' with h | h
 ·exact main N N' h a1 b2
 ·exact (main N' N h b1 a2).symm
theorem decR_cut {p r q k : Nat} {e : Int} (hk : 769 ≤ k) (hp : 10 ^ (k - 1) ≤ p) (hp2 : p < 10 ^ k) (hq : q < 10 ^ r) (h0 : 0 < q) (hpt : (k : Int) + (e + r) ≤ 768) : decR (p * 10 ^ r + q) e = decR (p * 10 + 1) (e + r - 1) := by
 obtain ⟨T, hT⟩ : ∃ T : Nat, T = 768 := ⟨_, rfl⟩
 have hr : 0 < r := by
  rcases Nat.eq_zero_or_pos r with h | h
  ·rw [h, Nat.pow_zero] at hq; omega
  ·exact h
 obtain ⟨j, rfl⟩ : ∃ j, r = j + 1 := ⟨r - 1, by omega⟩
 have e1 : decR ((p * 10 + 1) * 10 ^ j) e = decR (p * 10 + 1) (e + (j + 1 : Nat) - 1) := by
  rw [decR_shift]
  exact congrArg (decR _) (by omega)
 rw [← e1]
 have hj := ten_pos j
 have hpT : 10 ^ T ≤ p := Nat.le_trans (Nat.pow_le_pow_right (by omega) (by omega)) hp
 refine decR_same hT hpT ?_ ?_ ?_ ?_ (r := j + 1) ?_
 ·omega
 ·rw [Nat.add_mul, Nat.one_mul]; omega
 ·rw [Nat.pow_succ]; grind
 ·rw [Nat.pow_succ]; grind
 ·have h1 : (p + 1) * 10 ^ (e + (j + 1 : Nat)).toNat ≤ 10 ^ k * 10 ^ (e + (j + 1 : Nat)).toNat := Nat.mul_le_mul_right _ hp2
  have h2 : 10 ^ k * 10 ^ (e + (j + 1 : Nat)).toNat ≤ 10 ^ T * 10 ^ (-(e + (j + 1 : Nat))).toNat := by
   rw [← Nat.pow_add, ← Nat.pow_add]
   exact Nat.pow_le_pow_right (by omega) (by omega)
  exact Nat.le_trans h1 h2


end Go.Proofs.YtjmplgbhjpldbaaGreatDoor
namespace Go.Proofs.YtjmplgbhjpldbaaGreatDoor
def dg10 (c : Nat) : Bool := decide (48 ≤ c) && decide (c ≤ 57)
theorem dg10_iff {c : Nat} : dg10 c = true ↔ 48 ≤ c ∧ c ≤ 57 := by unfold dg10; simp
theorem dgt_ten {c : Nat} (h : dg10 c = true) : dgt c = c - 48 ∧ dgt c < 10 := by
 have := dg10_iff.1 h
 unfold dgt
 rw [if_pos this]
 exact ⟨rfl, by omega⟩
theorem dgt_lt_ten {c : Nat} : dgt c < 10 ↔ dg10 c = true := by
 constructor
 ·intro h
  unfold dgt at h
  by_cases h1 : 48 ≤ c ∧ c ≤ 57
  ·exact dg10_iff.2 h1
  ·rw [if_neg h1] at h
   split at h
   ·omega
   ·split at h <;> omega
 ·intro h; exact (dgt_ten h).2
def sgnB (l : List Nat) : Bool := l.head? == some 45
def unsg (l : List Nat) : List Nat := if l.head? = some 45 ∨ l.head? = some 43 then l.tail else l
def run10 (l : List Nat) : List Nat := l.takeWhile dg10
def aft10 (l : List Nat) : List Nat := l.dropWhile dg10
theorem run_aft (l : List Nat) : run10 l ++ aft10 l = l := List.takeWhile_append_dropWhile
theorem run10_all : ∀ (l : List Nat), ∀ c ∈ run10 l, dg10 c = true := by
 intro l
 induction l with
 | nil => intro c hc; simp [run10] at hc
 | cons d r ih =>
  intro c hc
  unfold run10 at hc ih
  rw [List.takeWhile_cons] at hc
  cases hd : dg10 d
  ·rw [hd] at hc; simp at hc
  ·rw [hd] at hc
   simp only [if_true] at hc
   rcases List.mem_cons.1 hc with rfl | h
   ·exact hd
   ·exact ih c h
theorem run_len (l : List Nat) : (run10 l).length + (aft10 l).length = l.length := by
 have := congrArg List.length (run_aft l)
 rw [List.length_append] at this
 exact this
def amtS (n c : Nat) : Nat := if n < 1099511627776 then n * 10 + (c - 48) else n
def amt (f : List Nat) : Nat := f.foldl amtS 0
theorem amt_snoc (f : List Nat) (c : Nat) : amt (f ++ [c]) = amtS (amt f) c := by unfold amt; rw [List.foldl_append]; rfl
theorem amt_lt : ∀ (f : List Nat), (∀ c ∈ f, dg10 c = true) → amt f < 10995116277760 := by
 intro f hf
 have main : ∀ (l : List Nat) (a : Nat), a < 10995116277760 → (∀ c ∈ l, dg10 c = true) → l.foldl amtS a < 10995116277760 := by
  intro l
  induction l with
  | nil => intro a h _; exact h
  | cons c r ih =>
   intro a h hl
   refine ih (amtS a c) ?_ (fun d hd => hl d (by simp [hd]))
   have := dg10_iff.1 (hl c (by simp))
   unfold amtS
   split <;> omega
 exact main f 0 (by omega) hf
def expB (l : List Nat) : Bool := (l.head? == some 101 || l.head? == some 69) && !(run10 (unsg l.tail)).isEmpty
def expV (l : List Nat) : Int := if sgnB l.tail = true then -(amt (run10 (unsg l.tail)) : Int) else (amt (run10 (unsg l.tail)) : Int)
def expR (l : List Nat) : List Nat := aft10 (unsg l.tail)
def exV (l : List Nat) : Int := if expB l = true then expV l else 0
def exR (l : List Nat) : List Nat := if expB l = true then expR l else l
theorem expV_le (l : List Nat) : -10995116277760 < expV l ∧ expV l < 10995116277760 := by
 have := amt_lt (run10 (unsg l.tail)) (run10_all _)
 unfold expV
 split <;> omega
theorem exV_le (l : List Nat) : -10995116277760 < exV l ∧ exV l < 10995116277760 := by
 have := expV_le l
 unfold exV
 split <;> omega
def dotB (t : List Nat) : Bool := t.head? == some 46
def dW (l : List Nat) : List Nat := run10 l
def dF (l : List Nat) : List Nat := if dotB (aft10 l) = true then run10 (aft10 l).tail else []
def dB (l : List Nat) : Bool := !((dW l).isEmpty && (dF l).isEmpty)
def dT (l : List Nat) : List Nat := if dotB (aft10 l) = true then aft10 (aft10 l).tail else aft10 l
def dX (l : List Nat) : Int := exV (dT l)
def dR (l : List Nat) : List Nat := exR (dT l)
def num (r : Nat) (f : List Nat) : Nat := pv r (fun i => dgt (f.getD i 0)) f.length
def dV (l : List Nat) : Nat := decR (num 10 (dW l ++ dF l)) (dX l - (dF l).length)
/-! ### Numbers of digits -/
theorem num_nil (r : Nat) : num r [] = 0 := rfl
theorem num_append (r : Nat) (f g : List Nat) : num r (f ++ g) = num r f * r ^ g.length + num r g := by
 unfold num
 rw [List.length_append, pv_add]
 congr 1
 ·congr 1
  refine pv_congr (fun i hi => ?_)
  rw [List.getD_eq_getElem?_getD, List.getElem?_append_left hi, ← List.getD_eq_getElem?_getD]
 ·refine pv_congr (fun i hi => ?_)
  rw [List.getD_eq_getElem?_getD, List.getElem?_append_right (by omega), Nat.add_sub_cancel_left, ← List.getD_eq_getElem?_getD]
theorem num_one (r c : Nat) : num r [c] = dgt c := by
 unfold num
 show pv r _ 1 = _
 simp [pv]
theorem num_cons (r c : Nat) (f : List Nat) : num r (c :: f) = dgt c * r ^ f.length + num r f := by
 rw [show c :: f = [c] ++ f from rfl, num_append, num_one]
theorem num_lt {r : Nat} {f : List Nat} (h : ∀ c ∈ f, dgt c < r) : num r f < r ^ f.length := by
 unfold num
 refine pv_lt (fun i hi => ?_)
 rw [List.getD_eq_getElem?_getD, List.getElem?_eq_getElem hi]
 exact h _ (List.getElem_mem hi)
theorem dgt_48 : dgt 48 = 0 := by decide
theorem num_zeros (r : Nat) : ∀ k : Nat, num r (List.replicate k 48) = 0
 | 0 => rfl
 | k + 1 => by rw [List.replicate_succ, num_cons, dgt_48, num_zeros r k]; simp
theorem num_lead (r : Nat) : ∀ f : List Nat, num r (f.dropWhile (· == 48)) = num r f
 | [] => rfl
 | c :: f => by
  by_cases h : c = 48
  ·subst h
   rw [List.dropWhile_cons_of_pos (by simp), num_lead r f, num_cons, dgt_48]
   simp
  ·rw [List.dropWhile_cons_of_neg (by simpa using h)]
theorem lead_head (f : List Nat) : (f.dropWhile (· == 48)).head? ≠ some 48 := by
 intro h
 have := List.head?_dropWhile_not (p := (· == 48)) f
 rw [h] at this
 simp at this
theorem num_ge {f : List Nat} {c : Nat} (hd : ∀ x ∈ c :: f, dg10 x = true) (hc : c ≠ 48) : 10 ^ f.length ≤ num 10 (c :: f) := by
 have h1 := dgt_ten (hd c (by simp))
 have h2 := dg10_iff.1 (hd c (by simp))
 rw [num_cons]
 have h3 : 1 * 10 ^ f.length ≤ dgt c * 10 ^ f.length := Nat.mul_le_mul_right _ (by omega)
 omega
theorem num_pos_iff {f : List Nat} (hd : ∀ x ∈ f, dg10 x = true) : num 10 f = 0 ↔ f.dropWhile (· == 48) = [] := by
 rw [← num_lead 10 f]
 constructor
 ·intro h
  cases hf : f.dropWhile (· == 48) with
  | nil => rfl
  | cons c g =>
   exfalso
   rw [hf] at h
   have h1 : c ≠ 48 := by
    have := lead_head f
    rw [hf] at this
    intro e
    exact this (by rw [e]; rfl)
   have h2 := num_ge (f := g) (c := c) (fun x hx => hd x (by
    have : x ∈ f.dropWhile (· == 48) := by rw [hf]; exact hx
    exact (List.dropWhile_sublist _).subset this)) h1
   have := ten_pos g.length
   omega
 ·intro h; rw [h]; rfl


end Go.Proofs.YtjmplgbhjpldbaaGreatDoor
namespace Go.Proofs.YtjmplgbhjpldbaaGreatDoor
def hxA (l : List Nat) : Bool := l.head? == some 48 && (l.tail.head? == some 120 || l.tail.head? == some 88)
def hx16 (c : Nat) : Bool := decide (dgt c < 16)
def hxB (l : List Nat) : Bool := hxA l && !(l.drop 2).isEmpty && (l.drop 2).all hx16
def natV (r : Nat) (f : List Nat) : Nat := decR (num r f) 0
def litB (l : List Nat) : Bool := hxB l || (dB l && (dR l).isEmpty && !(l.head? == some 48 && (l.tail.head?.map dg10 == some true)))
def litV (l : List Nat) : Nat := if hxB l = true then natV 16 (l.drop 2) else if litB l = true then dV l else 0
def dgq (r : Nat) (c : Nat) : Bool := decide (dgt c < r)
/-! ### Bytes of no number -/
def nrw (z : Nat) (us : List Nat) : List Nat := us.map fun u => if 127 < u then z else u
theorem nrw_lt {z : Nat} (hz : z < 128) (us : List Nat) : ∀ c ∈ nrw z us, c < 128 := by
 intro c hc
 unfold nrw at hc
 obtain ⟨u, _, rfl⟩ := List.mem_map.1 hc
 split <;> omega

end Go.Proofs.YtjmplgbhjpldbaaGreatDoor
namespace Go.Proofs.YtjmplgbhjpldbaaGreatDoor
def spN (c : Nat) : Bool := spB ((c : Nat) : Int)
def enN (c : Nat) : Bool := enB ((c : Nat) : Int)
def stN (c : Nat) : Bool := stB ((c : Nat) : Int)
def ptN (c : Nat) : Bool := ptB ((c : Nat) : Int)
def hd0 (l : List Nat) : Nat := l.headD 0
/-! ### Between tokens -/
def remL (l : List Nat) : Nat := (l.takeWhile fun c => !enN c).length
def comL : List Nat → Option (Nat × Bool)
 | [] => none
 | c :: r => if c = 42 ∧ hd0 r = 47 then some (2, false) else (comL r).map fun p => (p.1 + 1, enN c || p.2)
def gapL : List Nat → Option (Nat × Bool)
 | [] => some (0, false)
 | c :: r =>
  if enN c = true then some (1, true)
  else if spN c = true then some (1, false)
  else if c = 47 ∧ hd0 r = 47 then some (2 + remL r.tail, false)
  else if c = 47 ∧ hd0 r = 42 then (comL r.tail).map fun p => (2 + p.1, p.2)
  else some (0, false)
def skipF : Nat → List Nat → Nat × Bool × Bool
 | 0, _ => (0, false, true)
 | f + 1, l =>
  match gapL l with
  | none => (0, false, false)
  | some (0, _) => (0, false, true)
  | some (n + 1, b) =>
   let p := skipF f (l.drop (n + 1))
   (n + 1 + p.1, b || p.2.1, p.2.2)
def skipL (l : List Nat) : Nat × Bool × Bool := skipF (l.length + 1) l
/-! ### Escapes -/
def hxV (c : Nat) : Option Nat := if dgt c < 16 then some (dgt c) else none
def hexA : Nat → Nat → List Nat → Option Nat
 | _, 0, _ => none
 | a, 1, l => match l with
  | [] => none
  | c :: _ => (hxV c).map fun d => a * 16 + d
 | a, n + 2, l => match l with
  | [] => none
  | c :: r => (hxV c).bind fun d => hexA (a * 16 + d) (n + 1) r
def sglN (c : Nat) : Nat := if c = 98 then 8 else if c = 116 then 9 else if c = 110 then 10 else if c = 118 then 11 else if c = 102 then 12 else if c = 114 then 13 else c
def escL : List Nat → Option (List Nat × Nat)
 | [] => none
 | c :: r =>
  if c = 120 then (hexA 0 2 r).map fun v => ([v], 3)
  else if c = 117 then (hexA 0 4 r).map fun v => ([v], 5)
  else if enN c = true then some ([], if c = 13 ∧ hd0 r = 10 then 2 else 1)
  else if c = 48 then (if dg10 (hd0 r) = true then none else some ([0], 1))
  else if dg10 c = true then none
  else some ([sglN c], 1)
def strF : Nat → Nat → List Nat → Option (List Nat × Nat)
 | 0, _, _ => none
 | _ + 1, _, [] => none
 | f + 1, q, c :: r =>
  if enN c = true then none
  else if c = q then some ([], 1)
  else if c = 92 then
   match escL r with
   | none => none
   | some (v, n) => (strF f q (r.drop n)).map fun p => (v ++ p.1, 1 + n + p.2)
  else (strF f q r).map fun p => (c :: p.1, 1 + p.2)
def strL (q : Nat) (l : List Nat) : Option (List Nat × Nat) := strF (l.length + 1) q l
def fitN (b : Bool) (c : Nat) : Bool := if b = true then stN c else ptN c
def namF : Nat → Bool → List Nat → Option (List Nat × Bool × Nat)
 | 0, _, _ => some ([], false, 0)
 | _ + 1, _, [] => some ([], false, 0)
 | f + 1, b, c :: r =>
  if c = 92 then
   if hd0 r = 117 then
    match hexA 0 4 r.tail with
    | none => none
    | some v => if fitN b v = true then (namF f false (r.drop 5)).map fun p => (v :: p.1, true, 6 + p.2.2) else none
   else none
  else if fitN b c = true then (namF f false r).map fun p => (c :: p.1, p.2.1, 1 + p.2.2)
  else some ([], false, 0)
def namL (l : List Nat) : Option (List Nat × Bool × Nat) := namF (l.length + 1) true l


end Go.Proofs.YtjmplgbhjpldbaaGreatDoor
namespace Go.Proofs.YtjmplgbhjpldbaaGreatDoor
open Go.RowKit
theorem un_drop (s : ByteArray) (k : Nat) : unV s (k : Int) = hd0 ((us s).drop k) := by
 unfold unV unOk
 by_cases h : k < ln s
 ·rw [decide_eq_true (show (0 : Int) ≤ (k : Int) by omega), decide_eq_true (show (k : Int) < (ln s : Int) by omega), if_pos (by rfl), Int.toNat_natCast]
  unfold un hd0
  rw [List.getD_eq_getElem?_getD, List.headD_eq_head?_getD, List.head?_drop]
 ·rw [decide_eq_false (show ¬ (k : Int) < (ln s : Int) by omega), Bool.and_false, if_neg (by simp)]
  rw [List.drop_eq_nil_iff.2 (by rw [us_length]; omega)]
  rfl
theorem ok_drop (s : ByteArray) (k : Nat) : unOk s (k : Int) = !((us s).drop k).isEmpty := by
 unfold unOk
 rw [decide_eq_true (show (0 : Int) ≤ (k : Int) by omega), Bool.true_and, Bool.eq_iff_iff, decide_eq_true_iff, Bool.not_eq_true', List.isEmpty_eq_false_iff, Ne, List.drop_eq_nil_iff, us_length]
 omega
set_option maxRecDepth 100000 in
theorem xunit_any (s : ByteArray) (k : Nat) (w : World) (hs : s.size ≤ maxLen) :
  Cp 31 #[.string s, .int .i64 k] w fun e w' => e = .returned (.int .u16 ((hd0 ((us s).drop k) : Nat) : Int)) ∧ ∃ n, w' = w.drewN n := by
 have C1 := Lib.hid (fun W => unit_any s k W hs)
 rw [un_drop] at C1
 obtain ⟨v, hv⟩ : ∃ v, hd0 ((us s).drop k) = v := ⟨_, rfl⟩
 rw [hv] at C1 ⊢
 go_enter Tryz.func31, Tryz.ntmps31
 go_wp2_with fail
 refine (C1.out _).mono ?_
 rintro e w' ⟨rfl, n, rfl⟩
 go_wp2
 go_ret
 exact ⟨rfl, n, rfl⟩
theorem xdecimal_int (u : Int) (w : World) : Cq 52 #[.int .u16 u] (.bool (decide (48 ≤ u) && decide (u ≤ 57))) w := by
 go_enter Tryz.func52, Tryz.ntmps52
 go_wp2
 all_goals go_ret
 all_goals exact ⟨by simp [*] <;> omega, rfl⟩
theorem xdecimal_any (u : Nat) (w : World) : Cq 52 #[.int .u16 u] (.bool (dg10 u)) w := by
 have h : dg10 u = (decide (48 ≤ (u : Int)) && decide ((u : Int) ≤ 57)) := by
  unfold dg10
  rw [Bool.eq_iff_iff]
  simp only [decide_eq_true_eq, Bool.and_eq_true]
  omega
 rw [h]
 exact xdecimal_int u w
theorem hx16_iff (u : Nat) : hx16 u = (dg10 u || (decide (97 ≤ u) && decide (u ≤ 102)) || (decide (65 ≤ u) && decide (u ≤ 70))) := by
 unfold hx16 dg10 dgt
 rw [Bool.eq_iff_iff]
 simp only [decide_eq_true_eq, Bool.or_eq_true, Bool.and_eq_true]
 split
 ·omega
 ·split
  ·omega
  ·split <;> omega
theorem xhexadecimal_int (u : Int) (w : World) : Cq 97 #[.int .u16 u] (.bool ((decide (48 ≤ u) && decide (u ≤ 57)) || (decide (97 ≤ u) && decide (u ≤ 102)) || (decide (65 ≤ u) && decide (u ≤ 70)))) w := by
 have C := Lib.hid (fun W => xdecimal_int u W)
 obtain ⟨b, hb⟩ : ∃ b, (decide (48 ≤ u) && decide (u ≤ 57)) = b := ⟨_, rfl⟩
 rw [hb] at C ⊢
 clear hb
 cases b
 all_goals go_enter Tryz.func97, Tryz.ntmps97
 all_goals go_wp2_with (go_at_call 52; refine (C.out _).mono ?_; rintro e w' ⟨rfl, rfl⟩)
 all_goals go_ret
 all_goals exact ⟨by simp [*] <;> omega, rfl⟩
theorem xhexadecimal_any (u : Nat) (w : World) : Cq 97 #[.int .u16 u] (.bool (hx16 u)) w := by
 have h : hx16 u = ((decide (48 ≤ (u : Int)) && decide ((u : Int) ≤ 57)) || (decide (97 ≤ (u : Int)) && decide ((u : Int) ≤ 102)) || (decide (65 ≤ (u : Int)) && decide ((u : Int) ≤ 70))) := by
  rw [hx16_iff]
  unfold dg10
  rw [Bool.eq_iff_iff]
  simp only [decide_eq_true_eq, Bool.or_eq_true, Bool.and_eq_true]
  omega
 rw [h]
 exact xhexadecimal_int u w
theorem xdigit_any (u : Nat) (w : World) (h : hx16 u = true) : Cq 109 #[.int .u16 u] (.int .u16 ((dgt u : Nat) : Int)) w := by
 rw [hx16_iff] at h
 have hd : (97 ≤ u ∧ u ≤ 102 ∧ (dgt u : Int) = (u : Int) - 97 + 10) ∨ (65 ≤ u ∧ u ≤ 70 ∧ (dgt u : Int) = (u : Int) - 65 + 10) ∨ (48 ≤ u ∧ u ≤ 57 ∧ (dgt u : Int) = (u : Int) - 48) := by
  unfold dg10 at h
  simp only [decide_eq_true_eq, Bool.or_eq_true, Bool.and_eq_true] at h
  unfold dgt
  rcases h with (h | h) | h
  ·right; right
   rw [if_pos (by omega)]
   omega
  ·left
   rw [if_neg (by omega), if_pos (by omega)]
   omega
  ·right; left
   rw [if_neg (by omega), if_neg (by omega), if_pos (by omega)]
   omega
 obtain ⟨d, hdd⟩ : ∃ d, dgt u = d := ⟨_, rfl⟩
 rw [hdd] at hd ⊢
 clear h hdd
 rcases hd with ⟨h1, h2, h3⟩ | ⟨h1, h2, h3⟩ | ⟨h1, h2, h3⟩
 ·have t1 : (97 : Int) ≤ (u : Int) := by omega
  have t2 : (u : Int) ≤ 102 := by omega
  have k1 : (u : Int) - 97 + 10 = (d : Int) := h3.symm
  clear h1 h2 h3
  go_enter Tryz.func109, Tryz.ntmps109
  go_wp2
  go_ret
  exact ⟨rfl, rfl⟩
 ·have t0 : ¬ (97 : Int) ≤ (u : Int) := by omega
  have t1 : (65 : Int) ≤ (u : Int) := by omega
  have t2 : (u : Int) ≤ 70 := by omega
  have k1 : (u : Int) - 65 + 10 = (d : Int) := h3.symm
  clear h1 h2 h3
  go_enter Tryz.func109, Tryz.ntmps109
  go_wp2
  go_ret
  exact ⟨rfl, rfl⟩
 ·have t0 : ¬ (97 : Int) ≤ (u : Int) := by omega
  have t1 : ¬ (65 : Int) ≤ (u : Int) := by omega
  have t2 : (48 : Int) ≤ (u : Int) := by omega
  have t3 : (u : Int) ≤ 57 := by omega
  have k1 : (u : Int) - 48 = (d : Int) := h3.symm
  clear h1 h2 h3
  go_enter Tryz.func109, Tryz.ntmps109
  go_wp2
  go_ret
  exact ⟨rfl, rfl⟩
theorem ret_u16 {a b : Int} (h : a = b) : Ending.returned (.int .u16 a) = .returned (.int .u16 b) := by rw [h]
theorem xsingle_any (u : Nat) (w : World) : Cq 95 #[.int .u16 u] (.int .u16 ((sglN u : Nat) : Int)) w := by
 go_enter Tryz.func95, Tryz.ntmps95
 go_wp2
 all_goals go_ret
 all_goals simp only [beq_iff_eq, beq_eq_false_iff_ne, ne_eq] at *
 all_goals refine ⟨ret_u16 ?_, trivial⟩
 all_goals unfold sglN
 all_goals (repeat' split) <;> omega


end Go.Proofs.YtjmplgbhjpldbaaGreatDoor
namespace Go.Proofs.YtjmplgbhjpldbaaGreatDoor
open Go.RowKit
theorem drop_step {L : List Nat} {k : Nat} (h : k < L.length) : ∃ c, L.drop k = c :: L.drop (k + 1) ∧ hd0 (L.drop k) = c := ⟨L[k], List.drop_eq_getElem_cons h, by rw [List.drop_eq_getElem_cons h]; rfl⟩
theorem ends_n (u : Nat) (w : World) : Cq 71 #[.int .u16 u] (.bool (enN u)) w := ends_any u w
theorem space_n (u : Nat) (w : World) : Cq 72 #[.int .u16 u] (.bool (spN u)) w := space_any u w
set_option maxRecDepth 100000 in
set_option maxHeartbeats 1000000 in
theorem xremark_any (s : ByteArray) (k : Nat) (w : World) (hs : s.size ≤ 140737488355328) (hk : k ≤ ln s) :
  Cp 73 #[.string s, .int .i64 k] w fun e w' => e = .returned (.int .i64 ((k + remL ((us s).drop k) : Nat) : Int)) ∧ ∃ n, w' = w.drewN n := by
 have hs63 : s.size ≤ maxLen := by unfold maxLen; omega
 have C1 := Lib.hid (fun W => len_any s W hs63)
 have C2 := Lib.hid (fun (j : Nat) W => xunit_any s j W hs63)
 have hln := ln_le s
 have hl : ((ln s : Nat) : Int) ≤ 140737488355328 := by omega
 have hkl : (k : Int) ≤ (ln s : Int) := by omega
 obtain ⟨R, hR⟩ : ∃ R, k + remL ((us s).drop k) = R := ⟨_, rfl⟩
 rw [hR]
 have HR := Lib.hid hR
 have HK := Lib.hid hk
 clear hs hs63 hln hR hk
 go_enter Tryz.func73, Tryz.ntmps73
 go_wp2
 go_loopw [1] (fun v wr => ∃ j : Nat, v = .int .i64 j ∧ j ≤ ln s ∧ Hid (R = j + remL ((us s).drop j)) ∧ ∃ n, wr = w.drewN n) (fun v _ => ln s - (intOf v).toNat)
 case atStart => exact ⟨k, rfl, HK.out, Lib.hid HR.out.symm, 0, rfl⟩
 case round =>
  obtain ⟨j, rfl, hj, HJ, n0, rfl⟩ := hrel
  by_cases hlt : j < ln s
  ·obtain ⟨c, hc1, hc2⟩ := drop_step (L := us s) (k := j) (by rw [us_length]; exact hlt)
   have C2' := Lib.hid (fun W => C2.out j W)
   rw [hc2] at C2'
   have C3 := Lib.hid (fun W => ends_n c W)
   have t1 : (j : Int) < (ln s : Int) := by omega
   cases he : enN c
   ·rw [he] at C3
    have HJ2 : Hid (R = (j + 1) + remL ((us s).drop (j + 1))) := Lib.hid (by
     rw [HJ.out, hc1]
     unfold remL
     rw [List.takeWhile_cons, he, if_pos (by rfl), List.length_cons]
     omega)
    clear hc1 hc2 he
    go_wp2_with (first | (go_at_call 29; refine (C1.out _).mono ?_; rintro e w' ⟨rfl, rfl⟩) | (go_at_call 31; refine (C2'.out _).mono ?_; rintro e w' ⟨rfl, n1, rfl⟩) | (go_at_call 71; refine (C3.out _).mono ?_; rintro e w' ⟨rfl, rfl⟩))
    exact ⟨⟨j + 1, by go_num, by omega, HJ2, n0 + n1, by first | rfl | rw [World.drewN_drewN]⟩, by simp [intOf]; omega⟩
   ·rw [he] at C3
    have HJ2 : Hid (R = j) := Lib.hid (by
     rw [HJ.out, hc1]
     unfold remL
     rw [List.takeWhile_cons, he, if_neg (by simp)]
     rfl)
    clear hc1 hc2 he
    go_wp2_with (first | (go_at_call 29; refine (C1.out _).mono ?_; rintro e w' ⟨rfl, rfl⟩) | (go_at_call 31; refine (C2'.out _).mono ?_; rintro e w' ⟨rfl, n1, rfl⟩) | (go_at_call 71; refine (C3.out _).mono ?_; rintro e w' ⟨rfl, rfl⟩))
    go_ret
    exact ⟨by rw [HJ2.out]; rfl, n0 + n1, by first | rfl | rw [World.drewN_drewN]⟩
  ·have hj2 : j = ln s := by omega
   have HJ2 : Hid (R = j) := Lib.hid (by
    rw [HJ.out, List.drop_eq_nil_iff.2 (by rw [us_length]; omega)]
    rfl)
   have t1 : ¬ (j : Int) < (ln s : Int) := by omega
   go_wp2_with (go_at_call 29; refine (C1.out _).mono ?_; rintro e w' ⟨rfl, rfl⟩)
   go_ret
   exact ⟨by rw [HJ2.out, hj2]; rfl, n0, rfl⟩


end Go.Proofs.YtjmplgbhjpldbaaGreatDoor
namespace Go.Proofs.YtjmplgbhjpldbaaGreatDoor
open Go.RowKit
def hexB : Nat → Nat → List Nat → Option Nat
 | a, 0, _ => some a
 | a, n + 1, l => if hx16 (hd0 l) = true then hexB (a * 16 + dgt (hd0 l)) n l.tail else none
theorem hexA_B : ∀ (n a : Nat) (l : List Nat), hexA a (n + 1) l = hexB a (n + 1) l
 | 0, a, [] => rfl
 | 0, a, c :: r => by
  show (hxV c).map _ = if hx16 c = true then _ else none
  unfold hxV hx16
  by_cases h : dgt c < 16
  ·rw [if_pos h, if_pos (by simpa using h)]
   rfl
  ·rw [if_neg h, if_neg (by simpa using h)]
   rfl
 | n + 1, a, [] => rfl
 | n + 1, a, c :: r => by
  show (hxV c).bind _ = if hx16 c = true then hexB (a * 16 + dgt c) (n + 1) r else none
  unfold hxV
  by_cases h : dgt c < 16
  ·rw [if_pos h, if_pos (by unfold hx16; simpa using h)]
   exact hexA_B n _ r
  ·rw [if_neg h, if_neg (by unfold hx16; simpa using h)]
   rfl
theorem or_hex (v d : Nat) (hv : v < 4096) (hd : d < 16) : bits BinOp.or IntKind.u16 ((v : Int) * 16) (d : Int) = ((v * 16 + d : Nat) : Int) := by
 have e : ((v : Int) * 16) = ((v * 16 : Nat) : Int) := by omega
 rw [e, u16_or_nat _ _ (by omega) (by omega)]
 have := Nat.two_pow_add_eq_or_of_lt (i := 4) (b := d) (by omega) v
 rw [show v * 16 = 2 ^ 4 * v by omega, ← this]
def hexE : Option Nat → Ending
 | none => .returned (.tuple #[.int .u16 0, .bool false])
 | some v => .returned (.tuple #[.int .u16 (v : Nat), .bool true])
set_option maxRecDepth 100000 in
set_option maxHeartbeats 1000000 in
theorem xhex_any (s : ByteArray) (k n : Nat) (w : World) (hs : s.size ≤ 140737488355328) (hk : k ≤ 140737488355328) (hn : n ≤ 4) :
  Cp 94 #[.string s, .int .i64 k, .int .i64 n] w fun e w' => e = hexE (hexB 0 n ((us s).drop k)) ∧ ∃ m, w' = w.drewN m := by
 have hs63 : s.size ≤ maxLen := by unfold maxLen; omega
 have C1 := Lib.hid (fun (j : Nat) W => xunit_any s (k + j) W hs63)
 obtain ⟨R, hR⟩ : ∃ R, hexB 0 n ((us s).drop k) = R := ⟨_, rfl⟩
 rw [hR]
 have HR := Lib.hid hR
 clear hs hs63 hR
 go_enter Tryz.func94, Tryz.ntmps94
 go_wp2
 go_loopw [8, 12] (fun sv iv wr => ∃ (v i : Nat), sv = .int .u16 v ∧ iv = .int .i64 i ∧ i ≤ n ∧ Hid (v < 16 ^ i) ∧ Hid (R = hexB v (n - i) ((us s).drop (k + i))) ∧ ∃ m, wr = w.drewN m) (fun _ iv _ => n - (intOf iv).toNat)
 case atStart => exact ⟨0, 0, rfl, rfl, Nat.zero_le _, Lib.hid (by decide), Lib.hid HR.out.symm, 0, rfl⟩
 case round =>
  obtain ⟨v, i, rfl, rfl, hi, HV, HJ, n0, rfl⟩ := hrel
  by_cases hlt : i < n
  ·have C2 := Lib.hid (C1.out i)
   have hv : v < 4096 := by
    have h1 := HV.out
    have h2 : 16 ^ i ≤ 16 ^ 3 := Nat.pow_le_pow_right (by omega) (by omega)
    omega
   have hs1 : hexB v (n - i) ((us s).drop (k + i)) = if hx16 (hd0 ((us s).drop (k + i))) = true then hexB (v * 16 + dgt (hd0 ((us s).drop (k + i)))) (n - (i + 1)) ((us s).drop (k + (i + 1))) else none := by
    rw [show n - i = (n - (i + 1)) + 1 by omega, hexB, List.tail_drop]
    rfl
   obtain ⟨c, hc⟩ : ∃ c, hd0 ((us s).drop (k + i)) = c := ⟨_, rfl⟩
   rw [hc] at C2 hs1
   rw [show (((k + i : Nat) : Int)) = (k : Int) + (i : Int) by omega] at C2
   have C3 := Lib.hid (fun W => xhexadecimal_any c W)
   have t1 : (i : Int) < (n : Int) := by omega
   cases hx : hx16 c
   ·rw [hx] at C3
    rw [hx, if_neg (by simp)] at hs1
    have HJ2 : Hid (R = none) := Lib.hid (by rw [HJ.out, hs1])
    clear hs1 hx hc
    go_wp2_with fail
    refine (C2.out _).mono ?_
    rintro e w' ⟨rfl, n1, rfl⟩
    go_wp2_with fail
    refine (C3.out _).mono ?_
    rintro e w' ⟨rfl, rfl⟩
    go_wp2
    go_ret2
    exact ⟨by rw [HJ2.out]; rfl, n0 + n1, by first | rfl | simp⟩
   ·have hd16 : dgt c < 16 := by unfold hx16 at hx; simpa using hx
    have C4 := Lib.hid (fun W => xdigit_any c W hx)
    rw [hx] at C3
    rw [hx, if_pos (by rfl)] at hs1
    obtain ⟨d, hd⟩ : ∃ d, dgt c = d := ⟨_, rfl⟩
    rw [hd] at C4 hs1 hd16
    have HJ2 : Hid (R = hexB (v * 16 + d) (n - (i + 1)) ((us s).drop (k + (i + 1)))) := Lib.hid (by rw [HJ.out, hs1])
    have HV2 : Hid (v * 16 + d < 16 ^ (i + 1)) := Lib.hid (by have := HV.out; rw [Nat.pow_succ]; omega)
    have HO := Lib.hid (or_hex v d hv hd16)
    clear hs1 hx hc hd
    go_wp2_with fail
    refine (C2.out _).mono ?_
    rintro e w' ⟨rfl, n1, rfl⟩
    go_wp2_with fail
    refine (C3.out _).mono ?_
    rintro e w' ⟨rfl, rfl⟩
    go_wp2_with fail
    refine (C4.out _).mono ?_
    rintro e w' ⟨rfl, rfl⟩
    go_wp2
    go_roundw
    case rel => exact ⟨v * 16 + d, i + 1, by rw [HO.out], by go_num, by omega, HV2, HJ2, n0 + n1, by first | rfl | simp⟩
    case measure => simp [intOf]; omega
  ·have HJ2 : Hid (R = some v) := Lib.hid (by rw [HJ.out, show n - i = 0 by omega]; rfl)
   have t1 : ¬ (i : Int) < (n : Int) := by omega
   go_wp2
   go_ret2
   exact ⟨by rw [HJ2.out]; rfl, n0, rfl⟩


end Go.Proofs.YtjmplgbhjpldbaaGreatDoor
namespace Go.Proofs.YtjmplgbhjpldbaaGreatDoor
open Go.RowKit
def EscP (B k : Nat) (l : List Nat) (o : Option (List Nat × Nat)) (w : World) (e : Ending) (w' : World) : Prop :=
 (match o with
  | none => ∃ v' a, e = .returned (.tuple #[v', .int .i64 a, .bool false])
  | some p => ∃ v', e = .returned (.tuple #[v', .int .i64 ((k + p.2 : Nat) : Int), .bool true]) ∧ Own16 B (l ++ p.1) v' w') ∧ Below B w w'
theorem unitT_any (s : ByteArray) (k : Nat) (w : World) (hs : s.size ≤ maxLen) :
  Cp 48 #[.string s, .int .i64 k] w fun e w' => e = .returned (.tuple #[.int .u16 ((hd0 ((us s).drop k) : Nat) : Int), .bool (!((us s).drop k).isEmpty)]) ∧ ∃ n, w' = w.drewN n := by
 have h := unit_any s k w hs
 rw [un_drop, ok_drop] at h
 exact h
set_option maxRecDepth 100000 in
set_option maxHeartbeats 1000000 in
theorem xescape_x (B : Nat) (l : List Nat) (v : Value) (s : ByteArray) (k c : Nat) (w : World) (hs : s.size ≤ 140737488355328) (hk : k ≤ ln s) (hc : hd0 ((us s).drop k) = c) (hlt : k < ln s) (h : c = 120) (H : Own16 B l v w) (hB : B ≤ w.heap.size) (hl : l.length ≤ 35184372088832) :
  Cp 77 #[v, .string s, .int .i64 k] w fun e w' => EscP B k l ((hexB 0 2 ((us s).drop (k + 1))).map fun v => ([v], 3)) w e w' := by
 have hs63 : s.size ≤ maxLen := by unfold maxLen; omega
 obtain ⟨i0, hi, hz0, hz1, hz2⟩ := info_parts info_u16
 have C1 := Lib.hid (fun W => unitT_any s k W hs63)
 have hkl : (k : Int) ≤ 140737488355327 := by have := ln_le s; have := hk; have := hB; have := hl; omega
 have CU : ∀ W, Cp 31 #[.string s, .int .i64 ((k : Int) + 1)] W fun e w' => e = .returned (.int .u16 ((hd0 ((us s).drop (k + 1)) : Nat) : Int)) ∧ ∃ m, w' = W.drewN m := fun W => by
  rw [show (k : Int) + 1 = ((k + 1 : Nat) : Int) by omega]; exact xunit_any s (k + 1) W hs63
 have CU := Lib.hid CU
 have CH : ∀ n : Nat, n ≤ 4 → ∀ W, Cp 94 #[.string s, .int .i64 ((k : Int) + 1), .int .i64 n] W fun e w' => e = hexE (hexB 0 n ((us s).drop (k + 1))) ∧ ∃ m, w' = W.drewN m := fun n hn W => by
  have := ln_le s
  rw [show (k : Int) + 1 = ((k + 1 : Nat) : Int) by omega]; exact xhex_any s (k + 1) n W hs (by omega) hn
 have CH := Lib.hid CH
 have CE := Lib.hid (fun W => ends_n c W)
 have CD := Lib.hid (fun W => xdecimal_any c W)
 have CS := Lib.hid (fun W => xsingle_any c W)
 rw [hc] at C1
 have hne : ((us s).drop k).isEmpty = false := by
  rw [List.isEmpty_eq_false_iff, Ne, List.drop_eq_nil_iff, us_length]
  omega
 rw [hne] at C1
 have C2 := Lib.hid (show ∀ W, Cp 94 #[.string s, .int .i64 ((k : Int) + 1), .int .i64 2] W fun e w' => e = hexE (hexB 0 2 ((us s).drop (k + 1))) ∧ ∃ m, w' = W.drewN m from fun W => CH.out 2 (by omega) W)
 obtain ⟨o, ho⟩ : ∃ o, hexB 0 2 ((us s).drop (k + 1)) = o := ⟨_, rfl⟩
 rw [ho] at C2 ⊢
 subst h
 clear hs hs63 hk hc hne ho CU CH CE CD CS
 cases o with
 | none =>
  go_enter Tryz.func77, Tryz.ntmps77
  go_wp2_with fail
  refine (C1.out _).mono ?_
  rintro e w' ⟨rfl, n1, rfl⟩
  go_wp2_with fail
  refine (C2.out _).mono ?_
  rintro e w' ⟨rfl, n2, rfl⟩
  simp only [hexE]
  go_wp2_with (at_builtin; refine wpList_append_own _ rfl _ _ 42 rfl B 47 i0 (.int .u16 0) 1 2 Tryz.underlying42 hi hz0 hz1 hz2 rfl (by decide) _ _ _ rfl (World.ownsRow.alloc (w := w.drewN (n1 + n2)) H _) ⟨(w.drewN (n1 + n2)).heap.size, 0, none⟩ 1 1 [.int .u16 0] rfl rfl ?c1 ?c2 ?c3 ?c4 ?c5 ?_)
  case c1 => exact (cell_one_new _ _ _)
  case c2 => simp [Value.oneCell']
  case c3 => unfold maxLen; omega
  case c4 => omega
  case c5 => simp; omega
  intro v' w1 hown hg _
  have hbw : Below B w w1 := ((below_drewN' (Below.refl B w) (n1 + n2)).alloc (by simpa using hB) _).grown hg (by simp; omega) (fun j hj => (World.ownsRow.lt H j hj).1)
  go_wp2
  go_ret3
  exact ⟨⟨_, _, rfl⟩, hbw⟩
 | some x =>
  go_enter Tryz.func77, Tryz.ntmps77
  go_wp2_with fail
  refine (C1.out _).mono ?_
  rintro e w' ⟨rfl, n1, rfl⟩
  go_wp2_with fail
  refine (C2.out _).mono ?_
  rintro e w' ⟨rfl, n2, rfl⟩
  simp only [hexE]
  go_wp2_with (at_builtin; refine wpList_append_own _ rfl _ _ 42 rfl B 47 i0 (.int .u16 0) 1 2 Tryz.underlying42 hi hz0 hz1 hz2 rfl (by decide) _ _ _ rfl (World.ownsRow.alloc (w := w.drewN (n1 + n2)) H _) ⟨(w.drewN (n1 + n2)).heap.size, 0, none⟩ 1 1 [.int .u16 (x : Nat)] rfl rfl ?c1 ?c2 ?c3 ?c4 ?c5 ?_)
  case c1 => exact (cell_one_new _ _ _)
  case c2 => simp [Value.oneCell']
  case c3 => unfold maxLen; omega
  case c4 => omega
  case c5 => simp; omega
  intro v' w1 hown hg _
  have hbw : Below B w w1 := ((below_drewN' (Below.refl B w) (n1 + n2)).alloc (by simpa using hB) _).grown hg (by simp; omega) (fun j hj => (World.ownsRow.lt H j hj).1)
  go_wp2
  go_ret3
  exact ⟨⟨_, rfl, by simpa [Own16] using hown⟩, hbw⟩
set_option maxRecDepth 100000 in
set_option maxHeartbeats 1000000 in
theorem xescape_u (B : Nat) (l : List Nat) (v : Value) (s : ByteArray) (k c : Nat) (w : World) (hs : s.size ≤ 140737488355328) (hk : k ≤ ln s) (hc : hd0 ((us s).drop k) = c) (hlt : k < ln s) (h : c = 117) (H : Own16 B l v w) (hB : B ≤ w.heap.size) (hl : l.length ≤ 35184372088832) :
  Cp 77 #[v, .string s, .int .i64 k] w fun e w' => EscP B k l ((hexB 0 4 ((us s).drop (k + 1))).map fun v => ([v], 5)) w e w' := by
 have hs63 : s.size ≤ maxLen := by unfold maxLen; omega
 obtain ⟨i0, hi, hz0, hz1, hz2⟩ := info_parts info_u16
 have C1 := Lib.hid (fun W => unitT_any s k W hs63)
 have hkl : (k : Int) ≤ 140737488355327 := by have := ln_le s; have := hk; have := hB; have := hl; omega
 have CU : ∀ W, Cp 31 #[.string s, .int .i64 ((k : Int) + 1)] W fun e w' => e = .returned (.int .u16 ((hd0 ((us s).drop (k + 1)) : Nat) : Int)) ∧ ∃ m, w' = W.drewN m := fun W => by
  rw [show (k : Int) + 1 = ((k + 1 : Nat) : Int) by omega]; exact xunit_any s (k + 1) W hs63
 have CU := Lib.hid CU
 have CH : ∀ n : Nat, n ≤ 4 → ∀ W, Cp 94 #[.string s, .int .i64 ((k : Int) + 1), .int .i64 n] W fun e w' => e = hexE (hexB 0 n ((us s).drop (k + 1))) ∧ ∃ m, w' = W.drewN m := fun n hn W => by
  have := ln_le s
  rw [show (k : Int) + 1 = ((k + 1 : Nat) : Int) by omega]; exact xhex_any s (k + 1) n W hs (by omega) hn
 have CH := Lib.hid CH
 have CE := Lib.hid (fun W => ends_n c W)
 have CD := Lib.hid (fun W => xdecimal_any c W)
 have CS := Lib.hid (fun W => xsingle_any c W)
 rw [hc] at C1
 have hne : ((us s).drop k).isEmpty = false := by
  rw [List.isEmpty_eq_false_iff, Ne, List.drop_eq_nil_iff, us_length]
  omega
 rw [hne] at C1
 have C2 := Lib.hid (show ∀ W, Cp 94 #[.string s, .int .i64 ((k : Int) + 1), .int .i64 4] W fun e w' => e = hexE (hexB 0 4 ((us s).drop (k + 1))) ∧ ∃ m, w' = W.drewN m from fun W => CH.out 4 (by omega) W)
 obtain ⟨o, ho⟩ : ∃ o, hexB 0 4 ((us s).drop (k + 1)) = o := ⟨_, rfl⟩
 rw [ho] at C2 ⊢
 subst h
 clear hs hs63 hk hc hne ho CU CH CE CD CS
 cases o with
 | none =>
  go_enter Tryz.func77, Tryz.ntmps77
  go_wp2_with fail
  refine (C1.out _).mono ?_
  rintro e w' ⟨rfl, n1, rfl⟩
  go_wp2_with fail
  refine (C2.out _).mono ?_
  rintro e w' ⟨rfl, n2, rfl⟩
  simp only [hexE]
  go_wp2_with (at_builtin; refine wpList_append_own _ rfl _ _ 42 rfl B 47 i0 (.int .u16 0) 1 2 Tryz.underlying42 hi hz0 hz1 hz2 rfl (by decide) _ _ _ rfl (World.ownsRow.alloc (w := w.drewN (n1 + n2)) H _) ⟨(w.drewN (n1 + n2)).heap.size, 0, none⟩ 1 1 [.int .u16 0] rfl rfl ?c1 ?c2 ?c3 ?c4 ?c5 ?_)
  case c1 => exact (cell_one_new _ _ _)
  case c2 => simp [Value.oneCell']
  case c3 => unfold maxLen; omega
  case c4 => omega
  case c5 => simp; omega
  intro v' w1 hown hg _
  have hbw : Below B w w1 := ((below_drewN' (Below.refl B w) (n1 + n2)).alloc (by simpa using hB) _).grown hg (by simp; omega) (fun j hj => (World.ownsRow.lt H j hj).1)
  go_wp2
  go_ret3
  exact ⟨⟨_, _, rfl⟩, hbw⟩
 | some x =>
  go_enter Tryz.func77, Tryz.ntmps77
  go_wp2_with fail
  refine (C1.out _).mono ?_
  rintro e w' ⟨rfl, n1, rfl⟩
  go_wp2_with fail
  refine (C2.out _).mono ?_
  rintro e w' ⟨rfl, n2, rfl⟩
  simp only [hexE]
  go_wp2_with (at_builtin; refine wpList_append_own _ rfl _ _ 42 rfl B 47 i0 (.int .u16 0) 1 2 Tryz.underlying42 hi hz0 hz1 hz2 rfl (by decide) _ _ _ rfl (World.ownsRow.alloc (w := w.drewN (n1 + n2)) H _) ⟨(w.drewN (n1 + n2)).heap.size, 0, none⟩ 1 1 [.int .u16 (x : Nat)] rfl rfl ?c1 ?c2 ?c3 ?c4 ?c5 ?_)
  case c1 => exact (cell_one_new _ _ _)
  case c2 => simp [Value.oneCell']
  case c3 => unfold maxLen; omega
  case c4 => omega
  case c5 => simp; omega
  intro v' w1 hown hg _
  have hbw : Below B w w1 := ((below_drewN' (Below.refl B w) (n1 + n2)).alloc (by simpa using hB) _).grown hg (by simp; omega) (fun j hj => (World.ownsRow.lt H j hj).1)
  go_wp2
  go_ret3
  exact ⟨⟨_, rfl, by simpa [Own16] using hown⟩, hbw⟩
set_option maxRecDepth 100000 in
set_option maxHeartbeats 1000000 in
theorem xescape_ends (B : Nat) (l : List Nat) (v : Value) (s : ByteArray) (k c : Nat) (w : World) (hs : s.size ≤ 140737488355328) (hk : k ≤ ln s) (hc : hd0 ((us s).drop k) = c) (hlt : k < ln s) (he : enN c = true) (H : Own16 B l v w) (hB : B ≤ w.heap.size) (hl : l.length ≤ 35184372088832) :
  Cp 77 #[v, .string s, .int .i64 k] w fun e w' => EscP B k l (some ([], if c = 13 ∧ hd0 ((us s).drop (k + 1)) = 10 then 2 else 1)) w e w' := by
 have hs63 : s.size ≤ maxLen := by unfold maxLen; omega
 obtain ⟨i0, hi, hz0, hz1, hz2⟩ := info_parts info_u16
 have C1 := Lib.hid (fun W => unitT_any s k W hs63)
 have hkl : (k : Int) ≤ 140737488355327 := by have := ln_le s; have := hk; have := hB; have := hl; omega
 have CU : ∀ W, Cp 31 #[.string s, .int .i64 ((k : Int) + 1)] W fun e w' => e = .returned (.int .u16 ((hd0 ((us s).drop (k + 1)) : Nat) : Int)) ∧ ∃ m, w' = W.drewN m := fun W => by
  rw [show (k : Int) + 1 = ((k + 1 : Nat) : Int) by omega]; exact xunit_any s (k + 1) W hs63
 have CU := Lib.hid CU
 have CH : ∀ n : Nat, n ≤ 4 → ∀ W, Cp 94 #[.string s, .int .i64 ((k : Int) + 1), .int .i64 n] W fun e w' => e = hexE (hexB 0 n ((us s).drop (k + 1))) ∧ ∃ m, w' = W.drewN m := fun n hn W => by
  have := ln_le s
  rw [show (k : Int) + 1 = ((k + 1 : Nat) : Int) by omega]; exact xhex_any s (k + 1) n W hs (by omega) hn
 have CH := Lib.hid CH
 have CE := Lib.hid (fun W => ends_n c W)
 have CD := Lib.hid (fun W => xdecimal_any c W)
 have CS := Lib.hid (fun W => xsingle_any c W)
 rw [hc] at C1
 have hne : ((us s).drop k).isEmpty = false := by
  rw [List.isEmpty_eq_false_iff, Ne, List.drop_eq_nil_iff, us_length]
  omega
 rw [hne] at C1
 have h4 : c = 10 ∨ c = 13 ∨ c = 8232 ∨ c = 8233 := by
  unfold enN enB at he
  simp at he
  omega
 rw [he] at CE
 obtain ⟨d, hd⟩ : ∃ d, hd0 ((us s).drop (k + 1)) = d := ⟨_, rfl⟩
 rw [hd] at CU ⊢
 clear hs hs63 hk hc hne hd he CH CD CS
 by_cases h13 : c = 13
 ·subst h13
  clear h4
  by_cases h10 : d = 10
  ·subst h10
   rw [if_pos ⟨rfl, rfl⟩]
   go_enter Tryz.func77, Tryz.ntmps77
   go_wp2_with fail
   refine (C1.out _).mono ?_
   rintro e w' ⟨rfl, n1, rfl⟩
   go_wp2_with fail
   refine (CE.out _).mono ?_
   rintro e w' ⟨rfl, rfl⟩
   go_wp2_with fail
   refine (CU.out _).mono ?_
   rintro e w' ⟨rfl, n2, rfl⟩
   go_wp2
   go_ret3
   exact ⟨⟨_, rfl, by simpa [Own16] using (show Own16 B l v (w.drewN (n1 + n2)) from H)⟩, below_drewN' (Below.refl B w) (n1 + n2)⟩
  ·rw [if_neg (by omega)]
   have g1 : (d : Int) ≠ 10 := by omega
   go_enter Tryz.func77, Tryz.ntmps77
   go_wp2_with fail
   refine (C1.out _).mono ?_
   rintro e w' ⟨rfl, n1, rfl⟩
   go_wp2_with fail
   refine (CE.out _).mono ?_
   rintro e w' ⟨rfl, rfl⟩
   go_wp2_with fail
   refine (CU.out _).mono ?_
   rintro e w' ⟨rfl, n2, rfl⟩
   go_wp2
   go_ret3
   exact ⟨⟨_, rfl, by simpa [Own16] using (show Own16 B l v (w.drewN (n1 + n2)) from H)⟩, below_drewN' (Below.refl B w) (n1 + n2)⟩
 ·rw [if_neg (by omega)]
  have h3 : c = 10 ∨ c = 8232 ∨ c = 8233 := by omega
  clear h4 h13
  rcases h3 with rfl | rfl | rfl
  all_goals
   go_enter Tryz.func77, Tryz.ntmps77
   go_wp2_with fail
   refine (C1.out _).mono ?_
   rintro e w' ⟨rfl, n1, rfl⟩
   go_wp2_with fail
   refine (CE.out _).mono ?_
   rintro e w' ⟨rfl, rfl⟩
   go_wp2
   go_ret3
   exact ⟨⟨_, rfl, by simpa [Own16] using (show Own16 B l v (w.drewN n1) from H)⟩, below_drewN' (Below.refl B w) n1⟩
set_option maxRecDepth 100000 in
set_option maxHeartbeats 1000000 in
theorem xescape_zero (B : Nat) (l : List Nat) (v : Value) (s : ByteArray) (k c : Nat) (w : World) (hs : s.size ≤ 140737488355328) (hk : k ≤ ln s) (hc : hd0 ((us s).drop k) = c) (hlt : k < ln s) (h : c = 48) (H : Own16 B l v w) (hB : B ≤ w.heap.size) (hl : l.length ≤ 35184372088832) :
  Cp 77 #[v, .string s, .int .i64 k] w fun e w' => EscP B k l (if dg10 (hd0 ((us s).drop (k + 1))) = true then none else some ([0], 1)) w e w' := by
 have hs63 : s.size ≤ maxLen := by unfold maxLen; omega
 obtain ⟨i0, hi, hz0, hz1, hz2⟩ := info_parts info_u16
 have C1 := Lib.hid (fun W => unitT_any s k W hs63)
 have hkl : (k : Int) ≤ 140737488355327 := by have := ln_le s; have := hk; have := hB; have := hl; omega
 have CU : ∀ W, Cp 31 #[.string s, .int .i64 ((k : Int) + 1)] W fun e w' => e = .returned (.int .u16 ((hd0 ((us s).drop (k + 1)) : Nat) : Int)) ∧ ∃ m, w' = W.drewN m := fun W => by
  rw [show (k : Int) + 1 = ((k + 1 : Nat) : Int) by omega]; exact xunit_any s (k + 1) W hs63
 have CU := Lib.hid CU
 have CH : ∀ n : Nat, n ≤ 4 → ∀ W, Cp 94 #[.string s, .int .i64 ((k : Int) + 1), .int .i64 n] W fun e w' => e = hexE (hexB 0 n ((us s).drop (k + 1))) ∧ ∃ m, w' = W.drewN m := fun n hn W => by
  have := ln_le s
  rw [show (k : Int) + 1 = ((k + 1 : Nat) : Int) by omega]; exact xhex_any s (k + 1) n W hs (by omega) hn
 have CH := Lib.hid CH
 have CE := Lib.hid (fun W => ends_n c W)
 have CD := Lib.hid (fun W => xdecimal_any c W)
 have CS := Lib.hid (fun W => xsingle_any c W)
 rw [hc] at C1
 have hne : ((us s).drop k).isEmpty = false := by
  rw [List.isEmpty_eq_false_iff, Ne, List.drop_eq_nil_iff, us_length]
  omega
 rw [hne] at C1
 obtain ⟨d, hd⟩ : ∃ d, hd0 ((us s).drop (k + 1)) = d := ⟨_, rfl⟩
 rw [hd] at CU ⊢
 have CD2 := Lib.hid (fun W => xdecimal_any d W)
 subst h
 rw [show enN 48 = false from rfl] at CE
 clear hs hs63 hk hc hne hd CH CD CS
 cases hg : dg10 d
 ·rw [hg] at CD2
  rw [if_neg (by simp)]
  clear hg
  go_enter Tryz.func77, Tryz.ntmps77
  go_wp2_with fail
  refine (C1.out _).mono ?_
  rintro e w' ⟨rfl, n1, rfl⟩
  go_wp2_with fail
  refine (CE.out _).mono ?_
  rintro e w' ⟨rfl, rfl⟩
  go_wp2_with fail
  refine (CU.out _).mono ?_
  rintro e w' ⟨rfl, n2, rfl⟩
  go_wp2_with fail
  refine (CD2.out _).mono ?_
  rintro e w' ⟨rfl, rfl⟩
  go_wp2_with (at_builtin; refine wpList_append_own _ rfl _ _ 42 rfl B 47 i0 (.int .u16 0) 1 2 Tryz.underlying42 hi hz0 hz1 hz2 rfl (by decide) _ _ _ rfl (World.ownsRow.alloc (w := w.drewN (n1 + n2)) H _) ⟨(w.drewN (n1 + n2)).heap.size, 0, none⟩ 1 1 [.int .u16 0] rfl rfl ?c1 ?c2 ?c3 ?c4 ?c5 ?_)
  case c1 => exact (cell_one_new _ _ _)
  case c2 => simp [Value.oneCell']
  case c3 => unfold maxLen; omega
  case c4 => omega
  case c5 => simp; omega
  intro v' w1 hown hg _
  have hbw : Below B w w1 := ((below_drewN' (Below.refl B w) (n1 + n2)).alloc (by simpa using hB) _).grown hg (by simp; omega) (fun j hj => (World.ownsRow.lt H j hj).1)
  go_wp2
  go_ret3
  exact ⟨⟨_, rfl, by simpa [Own16] using hown⟩, hbw⟩
 ·rw [hg] at CD2
  rw [if_pos rfl]
  clear hg
  go_enter Tryz.func77, Tryz.ntmps77
  go_wp2_with fail
  refine (C1.out _).mono ?_
  rintro e w' ⟨rfl, n1, rfl⟩
  go_wp2_with fail
  refine (CE.out _).mono ?_
  rintro e w' ⟨rfl, rfl⟩
  go_wp2_with fail
  refine (CU.out _).mono ?_
  rintro e w' ⟨rfl, n2, rfl⟩
  go_wp2_with fail
  refine (CD2.out _).mono ?_
  rintro e w' ⟨rfl, rfl⟩
  go_wp2_with (at_builtin; refine wpList_append_own _ rfl _ _ 42 rfl B 47 i0 (.int .u16 0) 1 2 Tryz.underlying42 hi hz0 hz1 hz2 rfl (by decide) _ _ _ rfl (World.ownsRow.alloc (w := w.drewN (n1 + n2)) H _) ⟨(w.drewN (n1 + n2)).heap.size, 0, none⟩ 1 1 [.int .u16 0] rfl rfl ?c1 ?c2 ?c3 ?c4 ?c5 ?_)
  case c1 => exact (cell_one_new _ _ _)
  case c2 => simp [Value.oneCell']
  case c3 => unfold maxLen; omega
  case c4 => omega
  case c5 => simp; omega
  intro v' w1 hown hg _
  have hbw : Below B w w1 := ((below_drewN' (Below.refl B w) (n1 + n2)).alloc (by simpa using hB) _).grown hg (by simp; omega) (fun j hj => (World.ownsRow.lt H j hj).1)
  go_wp2
  go_ret3
  exact ⟨⟨_, _, rfl⟩, hbw⟩
set_option maxRecDepth 100000 in
set_option maxHeartbeats 1000000 in
theorem xescape_dec (B : Nat) (l : List Nat) (v : Value) (s : ByteArray) (k c : Nat) (w : World) (hs : s.size ≤ 140737488355328) (hk : k ≤ ln s) (hc : hd0 ((us s).drop k) = c) (hlt : k < ln s) (h : dg10 c = true) (h48 : c ≠ 48) (H : Own16 B l v w) (hB : B ≤ w.heap.size) (hl : l.length ≤ 35184372088832) :
  Cp 77 #[v, .string s, .int .i64 k] w fun e w' => EscP B k l none w e w' := by
 have hs63 : s.size ≤ maxLen := by unfold maxLen; omega
 obtain ⟨i0, hi, hz0, hz1, hz2⟩ := info_parts info_u16
 have C1 := Lib.hid (fun W => unitT_any s k W hs63)
 have hkl : (k : Int) ≤ 140737488355327 := by have := ln_le s; have := hk; have := hB; have := hl; omega
 have CU : ∀ W, Cp 31 #[.string s, .int .i64 ((k : Int) + 1)] W fun e w' => e = .returned (.int .u16 ((hd0 ((us s).drop (k + 1)) : Nat) : Int)) ∧ ∃ m, w' = W.drewN m := fun W => by
  rw [show (k : Int) + 1 = ((k + 1 : Nat) : Int) by omega]; exact xunit_any s (k + 1) W hs63
 have CU := Lib.hid CU
 have CH : ∀ n : Nat, n ≤ 4 → ∀ W, Cp 94 #[.string s, .int .i64 ((k : Int) + 1), .int .i64 n] W fun e w' => e = hexE (hexB 0 n ((us s).drop (k + 1))) ∧ ∃ m, w' = W.drewN m := fun n hn W => by
  have := ln_le s
  rw [show (k : Int) + 1 = ((k + 1 : Nat) : Int) by omega]; exact xhex_any s (k + 1) n W hs (by omega) hn
 have CH := Lib.hid CH
 have CE := Lib.hid (fun W => ends_n c W)
 have CD := Lib.hid (fun W => xdecimal_any c W)
 have CS := Lib.hid (fun W => xsingle_any c W)
 rw [hc] at C1
 have hne : ((us s).drop k).isEmpty = false := by
  rw [List.isEmpty_eq_false_iff, Ne, List.drop_eq_nil_iff, us_length]
  omega
 rw [hne] at C1
 have h2 := dg10_iff.1 h
 have g1 : (c : Int) ≠ 120 := by omega
 have g2 : (c : Int) ≠ 117 := by omega
 have g3 : (c : Int) ≠ 48 := by omega
 have hen : enN c = false := by
  unfold enN enB
  simp
  omega
 rw [hen] at CE
 rw [h] at CD
 clear hs hs63 hk hc hne hen h h2 h48 CH CS CU
 go_enter Tryz.func77, Tryz.ntmps77
 go_wp2_with fail
 refine (C1.out _).mono ?_
 rintro e w' ⟨rfl, n1, rfl⟩
 go_wp2_with fail
 refine (CE.out _).mono ?_
 rintro e w' ⟨rfl, rfl⟩
 go_wp2_with fail
 refine (CD.out _).mono ?_
 rintro e w' ⟨rfl, rfl⟩
 go_wp2_with (at_builtin; refine wpList_append_own _ rfl _ _ 42 rfl B 47 i0 (.int .u16 0) 1 2 Tryz.underlying42 hi hz0 hz1 hz2 rfl (by decide) _ _ _ rfl (World.ownsRow.alloc (w := w.drewN (n1)) H _) ⟨(w.drewN (n1)).heap.size, 0, none⟩ 1 1 [.int .u16 (c : Nat)] rfl rfl ?c1 ?c2 ?c3 ?c4 ?c5 ?_)
 case c1 => exact (cell_one_new _ _ _)
 case c2 => simp [Value.oneCell']
 case c3 => unfold maxLen; omega
 case c4 => omega
 case c5 => simp; omega
 intro v' w1 hown hg _
 have hbw : Below B w w1 := ((below_drewN' (Below.refl B w) (n1)).alloc (by simpa using hB) _).grown hg (by simp; omega) (fun j hj => (World.ownsRow.lt H j hj).1)
 go_wp2
 go_ret3
 exact ⟨⟨_, _, rfl⟩, hbw⟩
set_option maxRecDepth 100000 in
set_option maxHeartbeats 1000000 in
theorem xescape_one (B : Nat) (l : List Nat) (v : Value) (s : ByteArray) (k c : Nat) (w : World) (hs : s.size ≤ 140737488355328) (hk : k ≤ ln s) (hc : hd0 ((us s).drop k) = c) (hlt : k < ln s) (h1 : c ≠ 120) (h2 : c ≠ 117) (hen : enN c = false) (h48 : c ≠ 48) (h : dg10 c = false) (H : Own16 B l v w) (hB : B ≤ w.heap.size) (hl : l.length ≤ 35184372088832) :
  Cp 77 #[v, .string s, .int .i64 k] w fun e w' => EscP B k l (some ([sglN c], 1)) w e w' := by
 have hs63 : s.size ≤ maxLen := by unfold maxLen; omega
 obtain ⟨i0, hi, hz0, hz1, hz2⟩ := info_parts info_u16
 have C1 := Lib.hid (fun W => unitT_any s k W hs63)
 have hkl : (k : Int) ≤ 140737488355327 := by have := ln_le s; have := hk; have := hB; have := hl; omega
 have CU : ∀ W, Cp 31 #[.string s, .int .i64 ((k : Int) + 1)] W fun e w' => e = .returned (.int .u16 ((hd0 ((us s).drop (k + 1)) : Nat) : Int)) ∧ ∃ m, w' = W.drewN m := fun W => by
  rw [show (k : Int) + 1 = ((k + 1 : Nat) : Int) by omega]; exact xunit_any s (k + 1) W hs63
 have CU := Lib.hid CU
 have CH : ∀ n : Nat, n ≤ 4 → ∀ W, Cp 94 #[.string s, .int .i64 ((k : Int) + 1), .int .i64 n] W fun e w' => e = hexE (hexB 0 n ((us s).drop (k + 1))) ∧ ∃ m, w' = W.drewN m := fun n hn W => by
  have := ln_le s
  rw [show (k : Int) + 1 = ((k + 1 : Nat) : Int) by omega]; exact xhex_any s (k + 1) n W hs (by omega) hn
 have CH := Lib.hid CH
 have CE := Lib.hid (fun W => ends_n c W)
 have CD := Lib.hid (fun W => xdecimal_any c W)
 have CS := Lib.hid (fun W => xsingle_any c W)
 rw [hc] at C1
 have hne : ((us s).drop k).isEmpty = false := by
  rw [List.isEmpty_eq_false_iff, Ne, List.drop_eq_nil_iff, us_length]
  omega
 rw [hne] at C1
 have g1 : (c : Int) ≠ 120 := by omega
 have g2 : (c : Int) ≠ 117 := by omega
 have g3 : (c : Int) ≠ 48 := by omega
 rw [hen] at CE
 rw [h] at CD
 obtain ⟨x, hx⟩ : ∃ x, sglN c = x := ⟨_, rfl⟩
 rw [hx] at CS ⊢
 clear hs hs63 hk hc hne hen h h1 h2 h48 hx CH CU
 go_enter Tryz.func77, Tryz.ntmps77
 go_wp2_with fail
 refine (C1.out _).mono ?_
 rintro e w' ⟨rfl, n1, rfl⟩
 go_wp2_with fail
 refine (CE.out _).mono ?_
 rintro e w' ⟨rfl, rfl⟩
 go_wp2_with fail
 refine (CD.out _).mono ?_
 rintro e w' ⟨rfl, rfl⟩
 go_wp2_with fail
 refine (CS.out _).mono ?_
 rintro e w' ⟨rfl, rfl⟩
 go_wp2_with (at_builtin; refine wpList_append_own _ rfl _ _ 42 rfl B 47 i0 (.int .u16 0) 1 2 Tryz.underlying42 hi hz0 hz1 hz2 rfl (by decide) _ _ _ rfl (World.ownsRow.alloc (w := w.drewN (n1)) H _) ⟨(w.drewN (n1)).heap.size, 0, none⟩ 1 1 [.int .u16 (x : Nat)] rfl rfl ?c1 ?c2 ?c3 ?c4 ?c5 ?_)
 case c1 => exact (cell_one_new _ _ _)
 case c2 => simp [Value.oneCell']
 case c3 => unfold maxLen; omega
 case c4 => omega
 case c5 => simp; omega
 intro v' w1 hown hg _
 have hbw : Below B w w1 := ((below_drewN' (Below.refl B w) (n1)).alloc (by simpa using hB) _).grown hg (by simp; omega) (fun j hj => (World.ownsRow.lt H j hj).1)
 go_wp2
 go_ret3
 exact ⟨⟨_, rfl, by simpa [Own16] using hown⟩, hbw⟩
set_option maxRecDepth 100000 in
set_option maxHeartbeats 1000000 in
theorem xescape_end (B : Nat) (l : List Nat) (v : Value) (s : ByteArray) (k c : Nat) (w : World) (hs : s.size ≤ 140737488355328) (hk : k ≤ ln s) (hc : hd0 ((us s).drop k) = c) (hend : k = ln s) (H : Own16 B l v w) (hB : B ≤ w.heap.size) (hl : l.length ≤ 35184372088832) :
  Cp 77 #[v, .string s, .int .i64 k] w fun e w' => EscP B k l none w e w' := by
 have hs63 : s.size ≤ maxLen := by unfold maxLen; omega
 obtain ⟨i0, hi, hz0, hz1, hz2⟩ := info_parts info_u16
 have C1 := Lib.hid (fun W => unitT_any s k W hs63)
 have hkl : (k : Int) ≤ 140737488355327 := by have := ln_le s; have := hk; have := hB; have := hl; omega
 have CU : ∀ W, Cp 31 #[.string s, .int .i64 ((k : Int) + 1)] W fun e w' => e = .returned (.int .u16 ((hd0 ((us s).drop (k + 1)) : Nat) : Int)) ∧ ∃ m, w' = W.drewN m := fun W => by
  rw [show (k : Int) + 1 = ((k + 1 : Nat) : Int) by omega]; exact xunit_any s (k + 1) W hs63
 have CU := Lib.hid CU
 have CH : ∀ n : Nat, n ≤ 4 → ∀ W, Cp 94 #[.string s, .int .i64 ((k : Int) + 1), .int .i64 n] W fun e w' => e = hexE (hexB 0 n ((us s).drop (k + 1))) ∧ ∃ m, w' = W.drewN m := fun n hn W => by
  have := ln_le s
  rw [show (k : Int) + 1 = ((k + 1 : Nat) : Int) by omega]; exact xhex_any s (k + 1) n W hs (by omega) hn
 have CH := Lib.hid CH
 have CE := Lib.hid (fun W => ends_n c W)
 have CD := Lib.hid (fun W => xdecimal_any c W)
 have CS := Lib.hid (fun W => xsingle_any c W)
 rw [hc] at C1
 have hd0' : (us s).drop k = [] := List.drop_eq_nil_iff.2 (by rw [us_length]; omega)
 have hc0 : c = 0 := by rw [← hc, hd0']; rfl
 rw [hd0'] at C1
 subst hc0
 rw [show enN 0 = false from rfl] at CE
 rw [show dg10 0 = false from rfl] at CD
 rw [show sglN 0 = 0 from rfl] at CS
 clear hs hs63 hk hc hend CH CU
 go_enter Tryz.func77, Tryz.ntmps77
 go_wp2_with fail
 refine (C1.out _).mono ?_
 rintro e w' ⟨rfl, n1, rfl⟩
 go_wp2_with fail
 refine (CE.out _).mono ?_
 rintro e w' ⟨rfl, rfl⟩
 go_wp2_with fail
 refine (CD.out _).mono ?_
 rintro e w' ⟨rfl, rfl⟩
 go_wp2_with fail
 refine (CS.out _).mono ?_
 rintro e w' ⟨rfl, rfl⟩
 go_wp2_with (at_builtin; refine wpList_append_own _ rfl _ _ 42 rfl B 47 i0 (.int .u16 0) 1 2 Tryz.underlying42 hi hz0 hz1 hz2 rfl (by decide) _ _ _ rfl (World.ownsRow.alloc (w := w.drewN (n1)) H _) ⟨(w.drewN (n1)).heap.size, 0, none⟩ 1 1 [.int .u16 0] rfl rfl ?c1 ?c2 ?c3 ?c4 ?c5 ?_)
 case c1 => exact (cell_one_new _ _ _)
 case c2 => simp [Value.oneCell']
 case c3 => unfold maxLen; omega
 case c4 => omega
 case c5 => simp; omega
 intro v' w1 hown hg _
 have hbw : Below B w w1 := ((below_drewN' (Below.refl B w) (n1)).alloc (by simpa using hB) _).grown hg (by simp; omega) (fun j hj => (World.ownsRow.lt H j hj).1)
 go_wp2
 go_ret3
 exact ⟨⟨_, _, rfl⟩, hbw⟩
theorem xescape_any (B : Nat) (l : List Nat) (v : Value) (s : ByteArray) (k : Nat) (w : World) (hs : s.size ≤ 140737488355328) (hk : k ≤ ln s) (H : Own16 B l v w) (hB : B ≤ w.heap.size) (hl : l.length ≤ 35184372088832) :
  Cp 77 #[v, .string s, .int .i64 k] w fun e w' => EscP B k l (escL ((us s).drop k)) w e w' := by
 rcases Nat.lt_or_ge k (ln s) with hlt | hge
 ·obtain ⟨c, h1, h2⟩ := drop_step (L := us s) (k := k) (by rw [us_length]; exact hlt)
  rw [h1]
  rw [escL]
  by_cases e1 : c = 120
  ·rw [if_pos e1, show ∀ r, hexA 0 2 r = hexB 0 2 r from hexA_B 1 0]
   exact xescape_x B l v s k c w hs hk h2 hlt e1 H hB hl
  ·rw [if_neg e1]
   by_cases e2 : c = 117
   ·rw [if_pos e2, show ∀ r, hexA 0 4 r = hexB 0 4 r from hexA_B 3 0]
    exact xescape_u B l v s k c w hs hk h2 hlt e2 H hB hl
   ·rw [if_neg e2]
    cases e3 : enN c
    ·rw [if_neg (by simp)]
     by_cases e4 : c = 48
     ·rw [if_pos e4]
      exact xescape_zero B l v s k c w hs hk h2 hlt e4 H hB hl
     ·rw [if_neg e4]
      cases e5 : dg10 c
      ·rw [if_neg (by simp)]
       exact xescape_one B l v s k c w hs hk h2 hlt e1 e2 e3 e4 e5 H hB hl
      ·rw [if_pos rfl]
       exact xescape_dec B l v s k c w hs hk h2 hlt e5 e4 H hB hl
    ·rw [if_pos rfl]
     exact xescape_ends B l v s k c w hs hk h2 hlt e3 H hB hl
 ·rw [List.drop_eq_nil_iff.2 (by rw [us_length]; omega)]
  exact xescape_end B l v s k _ w hs hk rfl (by omega) H hB hl


end Go.Proofs.YtjmplgbhjpldbaaGreatDoor
namespace Go.Proofs.YtjmplgbhjpldbaaGreatDoor
theorem run_app {W r : List Nat} (hW : ∀ c ∈ W, dg10 c = true) (hr : ∀ c, r.head? = some c → dg10 c = false) : run10 (W ++ r) = W ∧ aft10 (W ++ r) = r := by
 induction W with
 | nil =>
  cases r with
  | nil => exact ⟨rfl, rfl⟩
  | cons c r =>
   have h := hr c rfl
   unfold run10 aft10
   rw [List.nil_append, List.takeWhile_cons_of_neg (by simp [h]), List.dropWhile_cons_of_neg (by simp [h])]
   exact ⟨rfl, rfl⟩
 | cons c W ih =>
  obtain ⟨i1, i2⟩ := ih (fun x hx => hW x (by simp [hx]))
  have h := hW c (by simp)
  unfold run10 aft10 at *
  rw [List.cons_append, List.takeWhile_cons_of_pos h, List.dropWhile_cons_of_pos h, i1, i2]
  exact ⟨rfl, rfl⟩
end Go.Proofs.YtjmplgbhjpldbaaGreatDoor
namespace Go.Proofs.YtjmplgbhjpldbaaGreatDoor
def numR (l : List Nat) : Nat := if hxA l = true then 2 + ((l.drop 2).takeWhile hx16).length else l.length - (dR l).length
def numP (l : List Nat) : Nat :=
 if hxA l = true then 2 + ((l.drop 2).takeWhile hx16).length
 else if (dT l).head? = some 101 ∨ (dT l).head? = some 69 then l.length - (expR (dT l)).length
 else l.length - (dT l).length
def numO (l : List Nat) (n : Nat) : Bool := litB (l.take n) && !(ptN (hd0 (l.drop n)) || hd0 (l.drop n) == 92)
theorem ptN_e : ptN 101 = true ∧ ptN 69 = true := by decide +kernel
theorem dT_suf (l : List Nat) : ∃ X, l = X ++ dT l := by
 unfold dT
 have h := run_aft l
 split
 ·rename_i hd
  unfold dotB at hd
  rw [beq_iff_eq] at hd
  cases hq : aft10 l with
  | nil => rw [hq] at hd; cases hd
  | cons a q =>
   refine ⟨run10 l ++ a :: run10 q, ?_⟩
   rw [List.tail_cons]
   have h2 := run_aft q
   calc l = run10 l ++ aft10 l := h.symm
    _ = run10 l ++ a :: (run10 q ++ aft10 q) := by rw [hq, h2]
    _ = run10 l ++ a :: run10 q ++ aft10 q := by simp
 ·exact ⟨run10 l, h.symm⟩
theorem dT_app {l X y : List Nat} (hl : l = X ++ dT l) (hy : ∀ c, y.head? = some c → dg10 c = false ∧ c ≠ 46) : dT (X ++ y) = y := by
 have hrun := run_aft l
 have hall := run10_all l
 have y1 : ∀ c, y.head? = some c → dg10 c = false := fun c hc => (hy c hc).1
 cases hd : dotB (aft10 l)
 ·have ht : dT l = aft10 l := by unfold dT; rw [hd, if_neg (by simp)]
  have hX : X = run10 l := by
   rw [ht] at hl
   have := hl.symm.trans hrun.symm
   exact List.append_cancel_right this
  obtain ⟨a1, a2⟩ := run_app (W := run10 l) (r := y) hall y1
  unfold dT
  rw [hX, a2]
  have : dotB y = false := by
   unfold dotB
   rw [beq_eq_false_iff_ne]
   intro h
   exact (hy 46 h).2 rfl
  rw [this, if_neg (by simp)]
 ·have hd' := hd
  unfold dotB at hd'
  rw [beq_iff_eq] at hd'
  cases hq : aft10 l with
  | nil => rw [hq] at hd'; cases hd'
  | cons a q =>
   rw [hq] at hd'
   have ha : a = 46 := by simpa using hd'
   subst ha
   have ht : dT l = aft10 q := by unfold dT; rw [hd, if_pos rfl, hq, List.tail_cons]
   have hrq := run_aft q
   have hX : X = run10 l ++ 46 :: run10 q := by
    have e : l = run10 l ++ 46 :: run10 q ++ aft10 q := by
     calc l = run10 l ++ aft10 l := hrun.symm
      _ = run10 l ++ 46 :: (run10 q ++ aft10 q) := by rw [hq, hrq]
      _ = run10 l ++ 46 :: run10 q ++ aft10 q := by simp
    rw [ht] at hl
    exact List.append_cancel_right (hl.symm.trans e)
   obtain ⟨b1, b2⟩ := run_app (W := run10 q) (r := y) (run10_all q) y1
   obtain ⟨a1, a2⟩ := run_app (W := run10 l) (r := 46 :: (run10 q ++ y)) hall (fun c hc => by
    have : c = 46 := by simpa using hc.symm
    subst this
    decide)
   have e : X ++ y = run10 l ++ 46 :: (run10 q ++ y) := by rw [hX]; simp
   unfold dT
   rw [e, a2]
   have : dotB (46 :: (run10 q ++ y)) = true := by unfold dotB; rfl
   rw [this, if_pos rfl, List.tail_cons, b2]
theorem hxA_take {l : List Nat} {n : Nat} (h : hxA (l.take n) = true) : hxA l = true := by
 unfold hxA at h ⊢
 cases l with
 | nil => simp at h
 | cons a t =>
  cases n with
  | zero => simp at h
  | succ n =>
   cases t with
   | nil => simp at h
   | cons b u =>
    cases n with
    | zero => simp at h
    | succ n => simpa using h
theorem unsg_suf (l : List Nat) : ∃ s, l = s ++ unsg l ∧ s.length ≤ 1 := by
 unfold unsg
 split
 ·cases l with
  | nil => exact ⟨[], rfl, by simp⟩
  | cons a t => exact ⟨[a], rfl, by simp⟩
 ·exact ⟨[], rfl, by simp⟩
theorem unsg_short {s : List Nat} (h : s.length ≤ 1) (l : List Nat) (hs : s ++ unsg l = l) : run10 (unsg s) = [] ∨ unsg l = l := by
 cases s with
 | nil => left; rfl
 | cons a t =>
  have ht : t = [] := List.eq_nil_of_length_eq_zero (by rw [List.length_cons] at h; omega)
  subst ht
  by_cases hc : a = 45 ∨ a = 43
  ·left
   unfold unsg
   rw [if_pos (by rcases hc with rfl | rfl <;> simp)]
   rfl
  ·right
   rw [← hs]
   unfold unsg
   rw [if_neg (by simpa using hc)]
theorem num_same (l : List Nat) : numO l (numP l) = numO l (numR l) ∧ (numO l (numR l) = true → numP l = numR l) := by
 by_cases hx : hxA l = true
 ·unfold numP numR
  rw [if_pos hx, if_pos hx]
  exact ⟨rfl, fun _ => rfl⟩
 obtain ⟨X, hX⟩ := dT_suf l
 obtain ⟨t, ht⟩ : ∃ t, dT l = t := ⟨_, rfl⟩
 by_cases he : t.head? = some 101 ∨ t.head? = some 69
 ·cases hb : expB t
  ·-- an exponent without digits: neither is a number
   have hR : numR l = X.length := by
    unfold numR dR exR
    rw [if_neg hx, ht, hb, if_neg (by simp), ← ht]
    have := congrArg List.length hX
    rw [List.length_append] at this
    omega
   cases t with
   | nil => simp at he
   | cons c q =>
    have hc : c = 101 ∨ c = 69 := by simpa using he
    have hrun : run10 (unsg q) = [] := by
     unfold expB at hb
     rw [List.tail_cons] at hb
     have h1 : ((c :: q).head? == some 101 || (c :: q).head? == some 69) = true := by rcases hc with rfl | rfl <;> rfl
     rw [h1, Bool.true_and] at hb
     simpa using hb
    obtain ⟨s, hs, hs1⟩ := unsg_suf q
    have hexp : expR (c :: q) = unsg q := by
     unfold expR
     rw [List.tail_cons]
     have := run_aft (unsg q)
     rw [hrun, List.nil_append] at this
     exact this
    have hl : l = X ++ (c :: q) := by rw [← ht]; exact hX
    have hP : numP l = X.length + 1 + s.length := by
     unfold numP
     rw [if_neg hx, ht, if_pos he, hexp]
     have h1 := congrArg List.length hl
     have h2 := congrArg List.length hs
     rw [List.length_append, List.length_cons] at h1
     rw [List.length_append] at h2
     omega
    have hoR : numO l (numR l) = false := by
     unfold numO
     rw [hR, hl, List.drop_left]
     have : ptN (hd0 (c :: q)) = true := by
      show ptN c = true
      rcases hc with rfl | rfl
      ·exact ptN_e.1
      ·exact ptN_e.2
     rw [this, Bool.true_or, Bool.not_true, Bool.and_false]
    have hoP : numO l (numP l) = false := by
     have htk : l.take (X.length + 1 + s.length) = X ++ (c :: s) := by
      have e : l = (X ++ (c :: s)) ++ unsg q := by
       rw [hl]
       conv => lhs; rw [hs]
       simp
      have hlen : X.length + 1 + s.length = (X ++ (c :: s)).length := by rw [List.length_append, List.length_cons]; omega
      conv => lhs; rw [e]
      rw [hlen, List.take_left]
     unfold numO
     rw [hP, htk]
     have hlit : litB (X ++ (c :: s)) = false := by
      have hdT := dT_app (y := c :: s) hX (fun d hd => by
       have : d = c := by simpa using hd.symm
       subst this
       rcases hc with rfl | rfl <;> exact ⟨by decide, by omega⟩)
      have hne : expB (c :: s) = false := by
       unfold expB
       rw [List.tail_cons]
       have hr : run10 (unsg s) = [] := by
        rcases unsg_short hs1 q hs.symm with h | h
        ·exact h
        ·have hs0 : s = [] := by
          have := congrArg List.length hs
          rw [h, List.length_append] at this
          exact List.eq_nil_of_length_eq_zero (by omega)
         rw [hs0]
         rfl
       rw [hr]
       simp
      have hdR : dR (X ++ (c :: s)) = c :: s := by
       unfold dR exR
       rw [hdT, hne, if_neg (by simp)]
      have hhx : hxB (X ++ (c :: s)) = false := by
       unfold hxB
       cases hxa : hxA (X ++ (c :: s))
       ·rfl
       ·rw [← htk] at hxa
        exact absurd (hxA_take hxa) hx
      unfold litB
      rw [hhx, hdR]
      simp
     rw [hlit, Bool.false_and]
    rw [hoP, hoR]
    exact ⟨rfl, fun h => by cases h⟩
  ·have e : numP l = numR l := by
    unfold numP numR dR exR
    rw [if_neg hx, if_neg hx, ht, if_pos he, hb, if_pos rfl]
   rw [e]
   exact ⟨rfl, fun _ => rfl⟩
 ·have e : numP l = numR l := by
   have hb : expB t = false := by
    unfold expB
    cases h1 : (t.head? == some 101 || t.head? == some 69)
    ·rfl
    ·rw [Bool.or_eq_true, beq_iff_eq, beq_iff_eq] at h1
     exact absurd h1 he
   unfold numP numR dR exR
   rw [if_neg hx, if_neg hx, ht, if_neg he, hb, if_neg (by simp)]
  rw [e]
  exact ⟨rfl, fun _ => rfl⟩


end Go.Proofs.YtjmplgbhjpldbaaGreatDoor
namespace Go.Proofs.YtjmplgbhjpldbaaGreatDoor
theorem hd0_cons (a : Nat) (l : List Nat) : hd0 (a :: l) = a := rfl
theorem hd0_get {l : List Nat} {a : Nat} (ha : a ≠ 0) (h : hd0 l = a) : ∃ r, l = a :: r := by
 cases l with
 | nil => exact absurd h.symm ha
 | cons b r => exact ⟨r, by rw [show b = a from h]⟩
theorem rem_le (l : List Nat) : remL l ≤ l.length := (List.takeWhile_sublist _).length_le
theorem rem_take {l : List Nat} {m : Nat} (h : remL l ≤ m) : remL (l.take m) = remL l := by
 unfold remL at *
 induction l generalizing m with
 | nil => simp
 | cons c r ih =>
  cases m with
  | zero =>
   rw [List.takeWhile_cons] at h ⊢
   split at h
   ·rw [List.length_cons] at h
    omega
   ·rename_i hc
    rw [if_neg hc]
    rfl
  | succ m =>
   rw [List.take_succ_cons, List.takeWhile_cons, List.takeWhile_cons]
   rw [List.takeWhile_cons] at h
   split
   ·rename_i hc
    rw [if_pos hc, List.length_cons] at h
    rw [List.length_cons, List.length_cons, ih (by omega)]
   ·rfl
theorem com_le : ∀ {l : List Nat} {n : Nat} {b : Bool}, comL l = some (n, b) → 2 ≤ n ∧ n ≤ l.length
 | [], _, _, h => by cases h
 | c :: r, n, b, h => by
  rw [comL] at h
  split at h
  ·rename_i hc
   obtain ⟨q, hq⟩ := hd0_get (by omega) hc.2
   have h2 : 2 = n := congrArg Prod.fst (Option.some.inj h)
   rw [hq, ← h2]
   simp
  ·cases hr : comL r with
   | none => rw [hr] at h; cases h
   | some p =>
    rw [hr] at h
    have h2 : p.1 + 1 = n := congrArg Prod.fst (Option.some.inj h)
    have := com_le hr
    rw [List.length_cons]
    omega
theorem com_take : ∀ {l : List Nat} {n m : Nat} {b : Bool}, comL l = some (n, b) → n ≤ m → comL (l.take m) = some (n, b)
 | [], _, _, _, h, _ => by cases h
 | c :: r, n, m, b, h, hm => by
  have hle := com_le h
  obtain ⟨k, rfl⟩ : ∃ k, m = k + 1 := ⟨m - 1, by omega⟩
  rw [comL] at h
  rw [List.take_succ_cons, comL]
  split at h
  ·rename_i hc
   obtain ⟨q, hq⟩ := hd0_get (by omega) hc.2
   obtain ⟨j, rfl⟩ : ∃ j, k = j + 1 := ⟨k - 1, by omega⟩
   rw [if_pos ⟨hc.1, by rw [hq]; rfl⟩]
   exact h
  ·rename_i hc
   cases hr : comL r with
   | none => rw [hr] at h; cases h
   | some p =>
    rw [hr] at h
    have h2 : p.1 + 1 = n := congrArg Prod.fst (Option.some.inj h)
    have ih := com_take (m := k) hr (by omega)
    have hle2 := com_le hr
    rw [ih, if_neg]
    ·exact h
    ·rintro ⟨h3, h4⟩
     obtain ⟨q, hq⟩ := hd0_get (by omega) h4
     cases r with
     | nil => rw [List.take_nil] at hq; cases hq
     | cons a t =>
      obtain ⟨j, rfl⟩ : ∃ j, k = j + 1 := ⟨k - 1, by omega⟩
      rw [List.take_succ_cons] at h4
      exact hc ⟨h3, h4⟩
theorem gap_le {l : List Nat} {n : Nat} {b : Bool} (h : gapL l = some (n, b)) : n ≤ l.length := by
 cases l with
 | nil =>
  have : 0 = n := congrArg Prod.fst (Option.some.inj h)
  omega
 | cons c r =>
  rw [gapL] at h
  rw [List.length_cons]
  split at h
  ·have : 1 = n := congrArg Prod.fst (Option.some.inj h)
   omega
  ·split at h
   ·have : 1 = n := congrArg Prod.fst (Option.some.inj h)
    omega
   ·split at h
    ·rename_i hc
     obtain ⟨q, hq⟩ := hd0_get (by omega) hc.2
     have h2 : 2 + remL r.tail = n := congrArg Prod.fst (Option.some.inj h)
     have := rem_le r.tail
     rw [hq] at h2 this ⊢
     rw [List.tail_cons] at h2 this
     rw [List.length_cons]
     omega
    ·split at h
     ·rename_i hc
      obtain ⟨q, hq⟩ := hd0_get (by omega) hc.2
      cases hr : comL r.tail with
      | none => rw [hr] at h; cases h
      | some p =>
       rw [hr] at h
       have h2 : 2 + p.1 = n := congrArg Prod.fst (Option.some.inj h)
       have := com_le hr
       rw [hq, List.tail_cons] at this
       rw [hq, List.length_cons]
       omega
     ·have : 0 = n := congrArg Prod.fst (Option.some.inj h)
      omega
theorem gap_take {l : List Nat} {n m : Nat} {b : Bool} (h : gapL l = some (n + 1, b)) (hm : n + 1 ≤ m) : gapL (l.take m) = some (n + 1, b) := by
 cases l with
 | nil => cases h
 | cons c r =>
  obtain ⟨k, rfl⟩ : ∃ k, m = k + 1 := ⟨m - 1, by omega⟩
  rw [gapL] at h
  rw [List.take_succ_cons, gapL]
  split at h
  ·rename_i h1
   rw [if_pos h1]
   exact h
  ·rename_i h1
   rw [if_neg h1]
   split at h
   ·rename_i h2
    rw [if_pos h2]
    exact h
   ·rename_i h2
    rw [if_neg h2]
    split at h
    ·rename_i h3
     obtain ⟨q, hq⟩ := hd0_get (by omega) h3.2
     have h5 : 2 + remL r.tail = n + 1 := congrArg Prod.fst (Option.some.inj h)
     obtain ⟨j, rfl⟩ : ∃ j, k = j + 1 := ⟨k - 1, by omega⟩
     rw [hq, List.tail_cons] at h h5
     rw [hq, List.take_succ_cons, if_pos ⟨h3.1, rfl⟩, List.tail_cons, rem_take (by omega)]
     exact h
    ·rename_i h3
     split at h
     ·rename_i h4
      obtain ⟨q, hq⟩ := hd0_get (by omega) h4.2
      cases hr : comL r.tail with
      | none => rw [hr] at h; cases h
      | some p =>
       rw [hr] at h
       have h5 : 2 + p.1 = n + 1 := congrArg Prod.fst (Option.some.inj h)
       have h6 := com_le hr
       obtain ⟨j, rfl⟩ : ∃ j, k = j + 1 := ⟨k - 1, by omega⟩
       rw [hq, List.tail_cons] at hr
       rw [hq, List.take_succ_cons, if_neg (by rintro ⟨_, h7⟩; rw [hd0_cons] at h7; omega), if_pos ⟨h4.1, rfl⟩, List.tail_cons, com_take hr (by omega)]
       exact h
     ·cases h
theorem skip_fuel : ∀ (f g : Nat) (l : List Nat), l.length < f → l.length < g → skipF f l = skipF g l
 | 0, _, _, h, _ => by omega
 | _ + 1, 0, _, _, h => by omega
 | f + 1, g + 1, l, hf, hg => by
  rw [skipF, skipF]
  cases hq : gapL l with
  | none => rfl
  | some p =>
   obtain ⟨n, b⟩ := p
   cases n with
   | zero => rfl
   | succ n =>
    have hle := gap_le hq
    have e := skip_fuel f g (l.drop (n + 1)) (by rw [List.length_drop]; omega) (by rw [List.length_drop]; omega)
    simp only [e]
theorem skipF_le : ∀ (f : Nat) (l : List Nat), (skipF f l).1 ≤ l.length
 | 0, l => Nat.zero_le _
 | f + 1, l => by
  rw [skipF]
  cases hq : gapL l with
  | none => exact Nat.zero_le _
  | some p =>
   obtain ⟨n, b⟩ := p
   cases n with
   | zero => exact Nat.zero_le _
   | succ n =>
    have h1 := gap_le hq
    have h2 := skipF_le f (l.drop (n + 1))
    rw [List.length_drop] at h2
    show n + 1 + _ ≤ _
    omega
theorem skipL_le (l : List Nat) : (skipL l).1 ≤ l.length := skipF_le _ l
theorem skip_cut : ∀ (f : Nat) (l : List Nat), (skipF f l).2.2 = true → skipF f (l.take (skipF f l).1) = skipF f l
 | 0, _, _ => rfl
 | f + 1, l, h => by
  cases hq : gapL l with
  | none =>
   have hV : skipF (f + 1) l = (0, false, false) := by rw [skipF, hq]
   rw [hV] at h
   cases h
  | some p =>
   obtain ⟨n, b⟩ := p
   cases n with
   | zero =>
    have hV : skipF (f + 1) l = (0, false, true) := by rw [skipF, hq]
    rw [hV, List.take_zero]
    rfl
   | succ n =>
    have hV : skipF (f + 1) l = (n + 1 + (skipF f (l.drop (n + 1))).1, b || (skipF f (l.drop (n + 1))).2.1, (skipF f (l.drop (n + 1))).2.2) := by rw [skipF, hq]
    rw [hV] at h
    have ih := skip_cut f (l.drop (n + 1)) h
    have hg := gap_take (m := n + 1 + (skipF f (l.drop (n + 1))).1) hq (by omega)
    have hW : skipF (f + 1) (l.take (n + 1 + (skipF f (l.drop (n + 1))).1)) = (n + 1 + (skipF f ((l.take (n + 1 + (skipF f (l.drop (n + 1))).1)).drop (n + 1))).1, b || (skipF f ((l.take (n + 1 + (skipF f (l.drop (n + 1))).1)).drop (n + 1))).2.1, (skipF f ((l.take (n + 1 + (skipF f (l.drop (n + 1))).1)).drop (n + 1))).2.2) := by rw [skipF, hg]
    have hd : (l.take (n + 1 + (skipF f (l.drop (n + 1))).1)).drop (n + 1) = (l.drop (n + 1)).take (skipF f (l.drop (n + 1))).1 := by
     rw [List.drop_take, show n + 1 + (skipF f (l.drop (n + 1))).1 - (n + 1) = (skipF f (l.drop (n + 1))).1 by omega]
    rw [hV]
    show skipF (f + 1) (l.take (n + 1 + (skipF f (l.drop (n + 1))).1)) = _
    rw [hW, hd, ih]
theorem skipL_cut {l : List Nat} (h : (skipL l).2.2 = true) : skipL (l.take (skipL l).1) = skipL l := by
 have hle := skipL_le l
 have h1 := skip_cut _ l h
 unfold skipL at hle h1 ⊢
 rw [skip_fuel _ (l.length + 1) _ (by rw [List.length_take]; omega) (by rw [List.length_take]; omega)]
 exact h1
/-! ### Tokens -/
def numL (l : List Nat) : Option (Nat × Nat) := if numO l (numR l) = true then some (litV (l.take (numR l)), numR l) else none
def readL : List Nat → Option (Nat × List Nat × Nat × Bool × Nat)
 | [] => some (1, [], 0, false, 0)
 | c :: r =>
  if (stN c || c == 92) = true then (namL (c :: r)).map fun p => (if resB p.1 = true then 3 else 2, p.1, 0, p.2.1, p.2.2)
  else if (c == 34 || c == 39) = true then (strL c r).map fun p => (6, p.1, 0, false, 1 + p.2)
  else if (dg10 c || (c == 46 && dg10 (hd0 r))) = true then (numL (c :: r)).map fun p => (5, [], p.1, false, p.2)
  else (markL (c :: r)).map fun t => (4, t, 0, false, t.length)
structure Tok where
 kind : Nat
 text : List Nat
 num : Nat
 esc : Bool
 nl : Bool
 pos : Nat
 fin : Nat
def allF : Nat → Nat → List Nat → Nat × Option (List Tok)
 | 0, p, _ => (p, none)
 | f + 1, p, l =>
  let s := skipL l
  if s.2.2 = false then (p + s.1, none)
  else match readL (l.drop s.1) with
   | none => (p + s.1, none)
   | some (k, t, x, e, n) =>
    if k = 1 then (0, some [⟨k, t, x, e, s.2.1, p + s.1, p + s.1 + n⟩])
    else match allF f (p + s.1 + n) (l.drop (s.1 + n)) with
     | (q, none) => (q, none)
     | (_, some ts) => (0, some (⟨k, t, x, e, s.2.1, p + s.1, p + s.1 + n⟩ :: ts))
def allL (l : List Nat) : Nat × Option (List Tok) := allF (l.length + 1) 0 l
theorem read_nil : readL [] = some (1, [], 0, false, 0) := rfl
theorem all_gap {l : List Nat} (h : (skipL l).2.2 = true) : allL (l.take (skipL l).1) = (0, some [⟨1, [], 0, false, (skipL l).2.1, (skipL l).1, (skipL l).1⟩]) := by
 have hle := skipL_le l
 have hc := skipL_cut h
 unfold allL
 rw [allF, hc]
 simp only [h]
 rw [if_neg (by simp), List.drop_take, Nat.sub_self, List.take_zero, read_nil]
 simp


end Go.Proofs.YtjmplgbhjpldbaaGreatDoor
