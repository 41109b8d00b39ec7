/-
  Merged texts (BE, Lb, Re, Lc, Ld, BD, BF).
-/
import Derived.Test.YtmimeejjaneedaaGreatDoorQlb
open Go.RowKit
set_option maxRecDepth 100000
set_option maxHeartbeats 40000000
namespace Go.Proofs.YtmimeejjaneedaaGreatDoor
section
theorem Ve {l : List Nat} (h : Ws l) (hv : l = [] ∨ 4294967296 ^ (l.length - 1) ≤ val l) : nrm l = l := by
 rcases hv with rfl | hv
 ·rfl
 ·have h1 := Aw l
  rcases Nat.lt_or_ge (nrm l).length l.length with h2 | h2
  ·have h3 := Ed h.nrm
   rw [Ar] at h3
   have h4 : 4294967296 ^ (nrm l).length ≤ 4294967296 ^ (l.length - 1) := Nat.pow_le_pow_right (by omega) (by omega)
   omega
  ·have h3 := Hl l
   rw [List.take_of_length_le h2] at h3
   exact h3
structure TpT (a : List Nat) (x y k : Nat) (S : List Nat) (q : Nat) : Prop where
 len : S.length = a.length
 ws : Ws S
 far : ∀ j, k ≤ j → S.getD j 0 = a.getD j 0
 sum : val (S.take k) + 4294967296 ^ k * q = x * val (a.take k) + y
 low : q < 4294967296
theorem TpT.start {a : List Nat} (ha : Ws a) {x y : Nat} (hy : y < 4294967296) : TpT a x y 0 a y := ⟨rfl, ha, fun _ _ => rfl, by simp [val], hy⟩
def tpC (a : List Nat) (x k q : Nat) : Nat := q + a.getD k 0 * x
theorem Aes {a : List Nat} {x k q : Nat} (ha : Ws a) (hx : x < 4294967296) (hq : q < 4294967296) : a.getD k 0 * x ≤ 18446744065119617025 ∧ tpC a x k q ≤ 18446744069414584320 := by
 have h1 := ha.getD k
 have h3 : a.getD k 0 * x ≤ 4294967295 * 4294967295 := Nat.mul_le_mul (by omega) (by omega)
 unfold tpC
 omega
theorem TpT.next {a : List Nat} {x y k : Nat} {S : List Nat} {q : Nat} (h : TpT a x y k S q) (ha : Ws a) (hx : x < 4294967296) (hk : k < a.length) :
  TpT a x y (k + 1) (S.set k (tpC a x k q % 4294967296)) (tpC a x k q / 4294967296) := by
 obtain ⟨h1, h2, h3, h4, h5⟩ := h
 have hc := (Aes (k := k) ha hx h5).2
 refine ⟨by rw [List.length_set]; exact h1, h2.set (by omega), fun j hj => by rw [Ao (by omega)]; exact h3 j (by omega), ?_, by omega⟩
 rw [Bg _ k (by rw [List.length_set]; omega), Bg a k hk, Bp (by omega)]
 rw [Co (l := S.set k (tpC a x k q % 4294967296)) (m := S) k (by rw [List.length_set]; omega) (by omega) (fun j hj => Ao (by omega))]
 have e := Fu (4294967296 ^ k) (tpC a x k q) (val (S.take k)) (x * (val (a.take k) + 4294967296 ^ k * a.getD k 0) + y) (by
  have : tpC a x k q = q + a.getD k 0 * x := rfl
  rw [this]
  grind)
 rw [Nat.pow_succ]
 exact e
theorem TpT.fin {n x y q : Nat} {S : List Nat} (h : TpT (wds n) x y (wds n).length S q) (hx : 0 < x) : (if q = 0 then S else S ++ [q]) = wds (n * x + y) := by
 obtain ⟨h1, h2, h3, h4, h5⟩ := h
 rw [List.take_of_length_le (by omega), List.take_of_length_le (Nat.le_refl _), Ag] at h4
 by_cases hq : q = 0
 ·rw [if_pos hq]
  rw [hq, Nat.mul_zero, Nat.add_zero] at h4
  have hv : val S = n * x + y := by rw [h4, Nat.mul_comm]
  rw [← hv, ← Be h2]
  refine (Ve h2 ?_).symm
  rcases Nat.eq_zero_or_pos (wds n).length with h0 | h0
  ·left; exact List.eq_nil_of_length_eq_zero (by omega)
  ·right
   have h6 := Nv (l := wds n) (by rw [H7]; intro e; rw [e] at h0; simp at h0)
   rw [H7, Ag] at h6
   rw [h1, hv]
   have : n * 1 ≤ n * x := Nat.mul_le_mul_left _ hx
   omega
 ·rw [if_neg hq]
  have hw : Ws (S ++ [q]) := h2.append (Ws.cons h5 Ws.nil)
  have hv : val (S ++ [q]) = n * x + y := by rw [Fr, h1, h4, Nat.mul_comm]
  rw [← hv, ← Be hw]
  refine (Ve hw (.inr ?_)).symm
  rw [Fr, List.length_append, List.length_singleton, Nat.add_sub_cancel]
  have : 4294967296 ^ S.length * 1 ≤ 4294967296 ^ S.length * q := Nat.mul_le_mul_left _ (by omega)
  omega
theorem OwnW.cell {B : Nat} {l : List Nat} {g n c : Nat} {w : World} (h : OwnW B l (.slice (some ⟨g, 0, none⟩) n c) w) (k : Nat) (hk : k < l.length) :
  w.cell? ⟨g, k, none⟩ = some (.int .u32 (l.getD k 0 : Nat)) ∧ w.frozen? ⟨g, k, none⟩ = false := by
 rcases h.2 with ⟨e, _⟩ | ⟨g', cap, cur, e, hB, hg, hcap, hmax, hcur, htk⟩
 ·cases e
 ·cases e
  refine ⟨?_, by simp [World.frozen?, hg]⟩
  have := World.ownsRow.cells (g := g) h rfl k (.int .u32 (l.getD k 0 : Nat)) (by rw [List.getElem?_map, getD_some hk]; rfl)
  by_cases hz : k = 0
  ·subst hz; simpa [Addr.add] using this
  ·simpa [Addr.add, hz] using this
theorem OwnW.set {B : Nat} {l : List Nat} {g n c : Nat} {w : World} (h : OwnW B l (.slice (some ⟨g, 0, none⟩) n c) w) (k u : Nat) :
  OwnW B (l.set k u) (.slice (some ⟨g, 0, none⟩) n c) (w.setCell ⟨g, k, none⟩ (.int .u32 (u : Nat))) := by
 rcases h.2 with ⟨e, _⟩ | ⟨g', cap, cur, e, hB, hg, hcap, hmax, hcur, htk⟩
 ·cases e
 ·cases e
  refine ⟨by rw [List.length_map, List.length_set, Nat.mul_one], .inr ⟨g, c, cur.set! k (.int .u32 (u : Nat)), by rw [List.length_set], hB, ?_, by rw [List.length_set]; exact hcap, hmax, ?_, ?_⟩⟩
  ·simp [World.setCell, Array.getElem?_modify, hg]
  ·simpa using hcur
  ·rw [List.map_set, ← htk]
   simp only [Array.set!_eq_setIfInBounds, Array.toList_setIfInBounds, List.length_set]
   rw [List.take_set]
theorem Ou (B : Nat) (v : Value) (n x y : Nat) (w : World) (h : OwnW B (wds n) v w) (hB : B ≤ w.heap.size) (hl : (wds n).length ≤ 1024) (hx : x < 4294967296) (hx0 : 0 < x) (hy : y < 4294967296) :
  Cp 300 #[v, .int .u32 x, .int .u32 y] w fun e w' => ∃ v', e = .returned v' ∧ OwnW B (wds (n * x + y)) v' w' ∧ Below B w w' := by
 obtain ⟨i0, hi, hz0, hz1, hz2⟩ := info_parts Ei
 have hy1 : IntKind.u64.wrap (y : Int) = (y : Int) := IntWalk.u64_in _ (by omega)
 have hx1 : IntKind.u64.wrap (x : Int) = (x : Int) := IntWalk.u64_in _ (by omega)
 have HX := Lh hx
 have HX0 := Lh hx0
 have HST := Lh (TpT.start (x := x) (Az n) hy)
 rcases h.2 with ⟨rfl, h0⟩ | ⟨g, cap, cur, rfl, hBg, hg, hcap, hmax, hcur, htk⟩
 ·have hnil : wds n = [] := List.eq_nil_of_length_eq_zero h0
  have hn0 : n = 0 := by rw [← Ag n, hnil]; rfl
  have HF := Lh (show (if y = 0 then ([] : List Nat) else [y]) = wds (n * x + y) from by
   have := (show TpT (wds n) x y (wds n).length [] y from by rw [hnil]; exact TpT.start Ws.nil hy).fin hx0
   rw [← this]; rfl)
  have hOn : OwnW B [] (.slice none 0 0) w := OwnW.nil _ _
  by_cases hy0 : y = 0
  ·rw [if_pos hy0] at HF
   have b0 : ((y : Int) == 0) = true := by rw [hy0]; rfl
   clear h hl hx hx0 hy h0 hnil hn0 hy0 HST
   go_enter Tryz.func300, Tryz.ntmps300
   go_wp2
   go_loopw [14, 7] (fun iv cv wr => iv = .int .i64 0 ∧ cv = .int .u64 (y : Nat) ∧ w = wr) (fun _ _ _ => 0)
   case atStart => exact ⟨rfl, rfl, rfl⟩
   case round =>
    obtain ⟨rfl, rfl, rfl⟩ := hrel
    go_wp2
    go_ret
    exact ⟨_, rfl, by rw [← HF.out]; exact hOn, Below.refl _ _⟩
  ·rw [if_neg hy0] at HF
   have b0 : ((y : Int) == 0) = false := by simp; omega
   have k1 : IntKind.u32.wrap (y : Int) = (y : Int) := IntWalk.u32_in _ (by omega)
   clear h hl hx hx0 hy h0 hnil hn0 hy0 HST
   go_enter Tryz.func300, Tryz.ntmps300
   go_wp2
   go_loopw [14, 7] (fun iv cv wr => iv = .int .i64 0 ∧ cv = .int .u64 (y : Nat) ∧ w = wr) (fun _ _ _ => 0)
   case atStart => exact ⟨rfl, rfl, rfl⟩
   case round =>
    obtain ⟨rfl, rfl, rfl⟩ := hrel
    go_wp2_with (at_builtin; refine wpList_append_own _ rfl _ _ 180 rfl B 156 i0 (.int .u32 0) 1 4 Tryz.underlying180 hi hz0 hz1 hz2 rfl (by decide) _ _ _ rfl (World.ownsRow.alloc (w := w) hOn _) ⟨w.heap.size, 0, none⟩ 1 1 [.int .u32 (y : Nat)] rfl rfl ?c1 ?c2 ?c3 ?c4 ?c5 ?_)
    case c1 => exact (cell_one_new _ _ _)
    case c2 => simp [Value.oneCell']
    case c3 => simp [maxLen]
    case c4 => simp
    case c5 => simp; omega
    intro v' w2 hown hgr _
    have HO2 := Lh (OwnW.snoc (L := []) hown)
    have hbb : Below B w w2 := ((Below.refl _ _).alloc hB _).grown hgr (by simp; omega) (fun j hj => by simp [Value.ownBlock] at hj)
    clear hown hgr
    go_wp2
    go_ret
    exact ⟨_, rfl, by rw [← HF.out]; exact HO2.out, hbb⟩
 ·obtain ⟨N, hN⟩ : ∃ N, (wds n).length = N := ⟨_, rfl⟩
  have HO0 := Lh h
  have HN := Lh hN
  have HWS := Lh (Az n)
  rw [hN] at hl hcap HO0 ⊢
  have hN1 : (N : Int) ≤ 1024 := by omega
  clear h hx hx0 hy hg hcur htk hN hmax
  go_enter Tryz.func300, Tryz.ntmps300
  go_wp2
  go_loopw [14, 7] (fun iv cv wr => ∃ (k : Nat) (S : List Nat) (q : Nat), iv = .int .i64 (k : Nat) ∧ cv = .int .u64 (q : Nat) ∧ k ≤ N ∧ Hid (OwnW B S (.slice (some ⟨g, 0, none⟩) N cap) wr) ∧ Hid (TpT (wds n) x y k S q) ∧ Below B w wr) (fun iv _ _ => N - (intOf iv).toNat)
  case atStart => exact ⟨0, wds n, y, rfl, rfl, Nat.zero_le _, HO0, HST, Below.refl _ _⟩
  case round =>
   obtain ⟨k, S, q, rfl, rfl, hk, HO, HT, hbw⟩ := hrel
   by_cases hlt : k < N
   ·have hkl : k < (wds n).length := by rw [HN.out]; exact hlt
    have hnx := HT.out.next HWS.out HX.out hkl
    obtain ⟨hcell, hfz⟩ := HO.out.cell k (by rw [HT.out.len]; exact hkl)
    rw [HT.out.far k (Nat.le_refl _)] at hcell
    obtain ⟨l1, l2⟩ := Aes (k := k) HWS.out HX.out HT.out.low
    have ul := HWS.out.getD k
    have ql := HT.out.low
    have et : tpC (wds n) x k q = q + (wds n).getD k 0 * x := rfl
    obtain ⟨t, ht⟩ : ∃ t, tpC (wds n) x k q = t := ⟨_, rfl⟩
    obtain ⟨u, hu⟩ : ∃ u, (wds n).getD k 0 = u := ⟨_, rfl⟩
    rw [ht] at hnx l2 et
    rw [hu] at hcell l1 ul et
    have HOS := Lh (HO.out.set k (t % 4294967296))
    have HNX := Lh hnx
    have k1 : IntKind.u64.wrap (u : Int) = (u : Int) := IntWalk.u64_in _ (by omega)
    have k2 : IntKind.u64.wrap ((u : Int) * (x : Int)) = (u : Int) * (x : Int) := IntWalk.u64_in _ (by
     have : ((u * x : Nat) : Int) = (u : Int) * (x : Int) := Int.natCast_mul u x
     omega)
    have k3 : IntKind.u64.wrap ((q : Int) + (u : Int) * (x : Int)) = (t : Int) := by
     have : ((u * x : Nat) : Int) = (u : Int) * (x : Int) := Int.natCast_mul u x
     rw [IntWalk.u64_in _ (by omega)]
     omega
    have hk1 : (k : Int) < (N : Int) := by omega
    rw [show ((t % 4294967296 : Nat) : Int) = (t : Int) % 4294967296 by omega] at HOS
    clear hkl hnx l1 l2 ul ql et ht hu
    go_wp2
    go_roundw
    case rel => exact ⟨k + 1, _, t / 4294967296, by go_num, by go_num, by omega, HOS, HNX, hbw.setCell hBg _⟩
    case measure => simp [intOf]; omega
   ·have hkN : k = N := by omega
    have hT2 : TpT (wds n) x y (wds n).length S q := by rw [HN.out, ← hkN]; exact HT.out
    have HF := Lh (hT2.fin HX0.out)
    have hql := HT.out.low
    have hSl := HT.out.len
    have hSW := HT.out.ws
    by_cases hq0 : q = 0
    ·rw [if_pos hq0] at HF
     have b0 : ((q : Int) == 0) = true := by rw [hq0]; rfl
     clear hT2 hql hSl hSW hq0 hkN
     go_wp2
     go_ret
     exact ⟨_, rfl, by rw [← HF.out]; exact HO.out, hbw⟩
    ·rw [if_neg hq0] at HF
     have b0 : ((q : Int) == 0) = false := by simp; omega
     have k1 : IntKind.u32.wrap (q : Int) = (q : Int) := IntWalk.u32_in _ (by omega)
     have HSL := Lh (show (N + 1) * 4 ≤ 140737488355328 ∧ N + 1 ≤ maxLen ∧ S.length = N from by unfold maxLen; rw [hSl, HN.out]; omega)
     have hbs := hbw.size
     have hon : wr.ownsRow B 156 1 (.slice (some ⟨g, 0, none⟩) N cap) N (S.map fun u => Value.int .u32 (u : Nat)) := by
      have := HO.out
      unfold OwnW at this
      rw [HSL.out.2.2] at this
      exact this
     have HON := Lh hon
     clear hT2 hql hSl hSW hq0 hkN hon
     go_wp2_with (at_builtin; refine wpList_append_own _ rfl _ _ 180 rfl B 156 i0 (.int .u32 0) 1 4 Tryz.underlying180 hi hz0 hz1 hz2 rfl (by decide) _ _ _ rfl (World.ownsRow.alloc (w := wr) HON.out _) ⟨wr.heap.size, 0, none⟩ 1 1 [.int .u32 (q : Nat)] rfl rfl ?c1 ?c2 ?c3 ?c4 ?c5 ?_)
     case c1 => exact (cell_one_new _ _ _)
     case c2 => simp [Value.oneCell']
     case c3 => exact HSL.out.2.1
     case c4 => exact HSL.out.1
     case c5 => simp; omega
     intro v' w2 hown hgr _
     rw [← HSL.out.2.2] at hown
     have HO2 := Lh (OwnW.snoc hown)
     have hbb : Below B w w2 := (hbw.alloc (by omega) _).grown hgr (by simp; omega) (fun j hj => (World.ownsRow.lt HO.out j hj).1)
     clear hown hgr
     go_wp2
     go_ret
     exact ⟨_, rfl, by rw [← HF.out]; exact HO2.out, hbb⟩
open Go.RowKit
theorem OwnW.below {B : Nat} {l : List Nat} {v : Value} {w w' : World} (h : OwnW B l v w) (hb : Below w.heap.size w w') : OwnW B l v w' := by
 refine World.ownsRow.kept (row := none) h ⟨hb.os, hb.tape, hb.output, hb.size, fun k hk _ => hb.block k hk⟩ ?_
 cases v.ownBlock <;> simp
theorem Zs {v : Nat} (h : Am v = false) : (wds v).length ≤ 1024 := by
 unfold Am at h
 have := of_decide_eq_false h
 omega
theorem Ks {v u : Nat} (h : u ≤ v) (hu : Am u = true) : Am v = true := by
 unfold Am at hu ⊢
 have h1 := of_decide_eq_true hu
 have h2 := Bd (n := u) (k := (wds v).length) (Nat.lt_of_le_of_lt h (F7 v))
 exact decide_eq_true (by omega)
theorem Jx (v u : Nat) : (wds (v + u)).length ≤ max (wds v).length (wds u).length + 1 := by
 refine Bd ?_
 have h1 := F7 v
 have h2 := F7 u
 have h3 : 4294967296 ^ (wds v).length ≤ 4294967296 ^ max (wds v).length (wds u).length := Nat.pow_le_pow_right (by omega) (by omega)
 have h4 : 4294967296 ^ (wds u).length ≤ 4294967296 ^ max (wds v).length (wds u).length := Nat.pow_le_pow_right (by omega) (by omega)
 have := Qb (max (wds v).length (wds u).length)
 omega
theorem Et (v u : Nat) : (wds (v * u)).length ≤ (wds v).length + (wds u).length := by
 refine Bd ?_
 rw [Nat.pow_add]
 exact Nat.mul_lt_mul'' (F7 v) (F7 u)
def sv (r : Nat) (s : ByteArray) : Nat := pv r (fun i => dgt (btn s i)) s.size
structure Rest (s : ByteArray) (o : Nat) (t : ByteArray) : Prop where
 le : o ≤ s.size
 size : t.size = s.size - o
 byte : ∀ i, i < t.size → btn t i = btn s (o + i)
theorem Lt (t : ByteArray) (a b i : Nat) (hi : i < b - a) (hb : b ≤ t.size) : btn (t.extract a b) i = btn t (a + i) := by
 have h1 : i < (t.extract a b).size := by rw [ByteArray.size_extract]; omega
 rw [← Dd _ i h1, ← Dd t (a + i) (by omega), ByteArray.getElem_extract]
theorem Rest.all (s : ByteArray) : Rest s 0 s := ⟨Nat.zero_le _, rfl, fun i _ => by rw [Nat.zero_add]⟩
theorem Rest.next {s t : ByteArray} {o m : Nat} (h : Rest s o t) (hm : m ≤ t.size) : Rest s (o + m) (t.extract m t.size) :=
 ⟨by have := h.le; have := h.size; omega, by rw [ByteArray.size_extract, h.size]; omega, fun i hi => by
  have h1 : i < t.size - m := by rw [ByteArray.size_extract] at hi; omega
  rw [Lt t m t.size i h1 (Nat.le_refl _), h.byte _ (by omega), Nat.add_assoc]⟩
def Ym : Value → Nat
 | .string s => s.size
 | _ => 0
theorem Ti (s : ByteArray) (r : Nat) (w : World) (hs : s.size ≤ 4611686018427387903) (h2 : 2 ≤ r) (h36 : r ≤ 36) (hd : adB r s = true) :
  Cp 262 #[.string s, .int .i64 r] w (NatPost (sv r s) w) := by
 have c1 := O2 s r w hs h36
 have C2 := Lh (fun W => Acm r W h2 h36)
 rw [hd] at c1
 have hdd : ∀ i, i < s.size → dgt (btn s i) < r := by
  unfold adB at hd
  exact of_decide_eq_true (Bool.and_eq_true _ _ ▸ hd : _ ∧ _).2
 have HD := Lh hdd
 have H2 := Lh h2
 have H36 := Lh h36
 have hr1 : ¬ (r : Int) < 2 := by omega
 have hr2 : ¬ (36 : Int) < (r : Int) := by omega
 have hs1 : (s.size : Int) ≤ 4611686018427387903 := by omega
 clear hd hdd hs h2 h36
 go_enter Tryz.func262, Tryz.ntmps262
 go_wp2_with fail
 refine c1.mono ?_
 rintro e w1 ⟨rfl, rfl⟩
 go_wp2_with fail
 refine (C2.out _).mono ?_
 rintro e w1 ⟨⟨c, p, rfl, hp, hc1, hc2, hpl⟩, rfl⟩
 have HP := Lh hp
 have HPL := Lh hpl
 have HC1 := Lh hc1
 have hc0 : (c : Int) ≤ 32 := by omega
 clear hp hpl hc1 hc2 c1 C2
 go_wp2
 go_loopw [0, 8] (fun tv av wr => ∃ (t : ByteArray) (o : Nat), tv = .string t ∧ Hid (Rest s o t) ∧ Hid (OwnW w.heap.size (wds (pv r (fun i => dgt (btn s i)) o)) av wr) ∧ Hid (Am (pv r (fun i => dgt (btn s i)) o) = false) ∧ Below w.heap.size w wr) (fun tv _ _ => Ym tv)
 case atStart => exact ⟨s, 0, rfl, Lh (Rest.all s), Lh (OwnW.nil _ _), Lh (D0 (by simp [pv])), Below.refl _ _⟩
 case round =>
  obtain ⟨t, o, rfl, HR, HO, HL, hbw⟩ := hrel
  obtain ⟨V, hV⟩ : ∃ V, pv r (fun i => dgt (btn s i)) o = V := ⟨_, rfl⟩
  rw [hV] at HO HL
  have HV := Lh hV
  have hle := Zs HL.out
  obtain ⟨A0, c0, rfl, hc0', hr0⟩ := HO.out.sl (Az V)
  obtain ⟨L0, hL0⟩ : ∃ L, (wds V).length = L := ⟨_, rfl⟩
  have hts : (t.size : Int) ≤ 4611686018427387903 := by have := HR.out.size; omega
  by_cases h0 : t.size = 0
  ·have C1 := Lh (Iw A0 L0 c0 (wds V) wr hL0 (by omega) (by omega) hr0)
   rw [Ag] at C1
   have HFV := Lh (show V = sv r s from by
    have h1 := HR.out.size
    have h2 := HR.out.le
    rw [← HV.out]; unfold sv; congr 1; omega)
   have HL0 := Lh hL0
   rw [hL0]
   have b0 : ¬ (0 : Int) < (t.size : Int) := by omega
   clear hV hle hc0' hr0 hL0 h0
   go_wp2_with fail
   refine C1.out.mono ?_
   rintro e w2 h
   have h2 := NatPost.from_ hbw h
   rw [HFV.out] at h2
   obtain ⟨A2, n2, c2, k2, rfl, h3, h4⟩ := h2
   have H3 := Lh h3
   have H4 := Lh h4
   clear h h3 h4 C1
   go_wp2
   go_ret2
   exact ⟨A2, n2, c2, k2, rfl, H3.out, H4.out⟩
  ·obtain ⟨m, hm⟩ : ∃ m, min c t.size = m := ⟨_, rfl⟩
   have hc1 := HC1.out
   have hm0 : 0 < m := by omega
   have hmt : m ≤ t.size := by omega
   have hmc : (m = c ∧ (c : Int) ≤ (t.size : Int)) ∨ (m = t.size ∧ ¬ (c : Int) ≤ (t.size : Int)) := by omega
   have hRn := HR.out.next hmt
   have hsz : (t.extract 0 m).size = m := by rw [ByteArray.size_extract]; omega
   have hby : ∀ i, i < m → btn (t.extract 0 m) i = btn s (o + i) := fun i hi => by
    rw [Lt t 0 m i (by omega) hmt, Nat.zero_add]; exact HR.out.byte i (by omega)
   have hom : o + m ≤ s.size := hRn.le
   have hpm : r ^ m < 4294967296 := by
    have h1 : r ^ m ≤ r ^ c := Nat.pow_le_pow_right (by have := H2.out; omega) (by omega)
    have h2 := HPL.out
    rw [HP.out] at h2
    omega
   have hpm0 : 0 < r ^ m := Nat.pow_pos (by have := H2.out; omega)
   have hpv : pv r (fun i => dgt (btn (t.extract 0 m) i)) m = pv r (fun i => dgt (btn s (o + i))) m := He (fun i hi => by rw [hby i hi])
   have C1 := Lh (fun W => show Cp 299 #[.string (t.extract 0 m), .int .i64 r] W fun e w' => e = .returned (.tuple #[.int .u32 (pv r (fun i => dgt (btn s (o + i))) m : Nat), .int .u32 (r ^ m : Nat)]) ∧ W = w' from by
    have := Aca (t.extract 0 m) r W H36.out H2.out (by rw [hsz]; exact hpm) (fun i hi => by rw [hsz] at hi; rw [hby i hi]; exact HD.out _ (by omega))
    rw [hsz, hpv] at this
    exact this)
   have hyl : pv r (fun i => dgt (btn s (o + i))) m < 4294967296 := Nat.lt_trans (Z6 (fun i hi => HD.out _ (by omega))) hpm
   have hadd := Wf r (fun i => dgt (btn s i)) o m
   rw [hV] at hadd
   obtain ⟨x, hx⟩ : ∃ x, r ^ m = x := ⟨_, rfl⟩
   obtain ⟨y, hy⟩ : ∃ y, pv r (fun i => dgt (btn s (o + i))) m = y := ⟨_, rfl⟩
   rw [hx] at C1 hpm hpm0 hadd
   rw [hy] at C1 hyl hadd
   have C2 := Lh (Ou w.heap.size (.slice A0 L0 c0) V x y wr (by have := HO.out; rw [hL0] at this; exact this) hbw.size hle hpm hpm0 hyl)
   obtain ⟨V2, hV2⟩ : ∃ V2, V * x + y = V2 := ⟨_, rfl⟩
   rw [hV2] at C2 hadd
   have HV2 := Lh hadd
   have l1 : (wds V2).length ≤ 1026 := by
    have h1 := Et V x
    have h2 := Jx (V * x) y
    have h3 : (wds x).length ≤ 1 := Bd (by omega)
    have h4 : (wds y).length ≤ 1 := Bd (by omega)
    rw [hV2] at h2
    omega
   have HLE2 := Lh l1
   have HRN := Lh hRn
   have HMONO := Lh (show V2 ≤ sv r s from by rw [← hadd]; exact Mr (by have := H2.out; omega) hom)
   have HM0 := Lh hm0
   have hmt1 : (m : Int) ≤ (t.size : Int) := by omega
   have b0 : (0 : Int) < (t.size : Int) := by omega
   rw [hL0]
   clear hV hle hc0' hr0 hL0 h0 hm hc1 hm0 hmt hRn hsz hby hom hpm hpm0 hpv hyl hadd hx hy hV2 l1
   rcases hmc with ⟨rfl, a1⟩ | ⟨rfl, a1⟩
   ·have e0 : min (m : Int) (t.size : Int) = (m : Int) := Int.min_eq_left a1
    go_wp2_with fail
    refine Sm (C1.out _) ?_
    go_wp2_with fail
    refine C2.out.mono ?_
    rintro e w2 ⟨v2, rfl, ho2, hb2⟩
    have hbw2 : Below w.heap.size w w2 := hbw.trans hb2
    obtain ⟨A2, c2, rfl, hc2, hr2⟩ := ho2.sl (Az _)
    obtain ⟨L2, hL2⟩ : ∃ L, (wds V2).length = L := ⟨_, rfl⟩
    rw [hL2] at hc2 ho2 ⊢
    have C3 := Lh (De A2 L2 c2 (wds V2) w2 hL2 hc2 (by have := HLE2.out; omega) hr2)
    rw [Ag] at C3
    have HO2 := Lh ho2
    have hp : Below w2.heap.size w2 (lone w2 (.slice A2 L2 c2)) := (Below.refl _ _).alloc (Nat.le_refl _) _
    have HB2 := Lh (Aa hbw2 hp)
    have HO3 := Lh (ho2.below hp)
    have HL2 := Lh hL2
    clear ho2 hb2 hbw2 hc2 hr2 hL2 hp C1 C2
    cases hl : Am V2
    ·rw [hl] at C3
     have HLN := Lh hl
     clear hl
     go_wp2_with fail
     refine C3.out.mono ?_
     rintro e w3 ⟨rfl, rfl⟩
     go_wp2
     exact ⟨⟨_, _, rfl, HRN, Lh (by rw [HV2.out]; exact HO3.out), Lh (by rw [HV2.out]; exact HLN.out), HB2.out⟩, by
      have h1 := HM0.out
      have h2 := HRN.out.size
      have h3 := HRN.out.le
      have h4 := HR.out.size
      simp only [Ym]
      omega⟩
    ·rw [hl] at C3
     have HLN := Lh (Ks HMONO.out hl)
     clear hl
     go_wp2_with fail
     refine C3.out.mono ?_
     rintro e w3 ⟨rfl, rfl⟩
     go_wp2
     go_ret2
     exact NatPost.long HLN.out HB2.out
   ·have e0 : min (c : Int) (t.size : Int) = (t.size : Int) := Int.min_eq_right (by omega)
    rw [show t.extract 0 t.size = t from by simp] at C1
    rw [show t.extract t.size t.size = ByteArray.empty from by simp] at HRN
    go_wp2_with fail
    refine Sm (C1.out _) ?_
    go_wp2_with fail
    refine C2.out.mono ?_
    rintro e w2 ⟨v2, rfl, ho2, hb2⟩
    have hbw2 : Below w.heap.size w w2 := hbw.trans hb2
    obtain ⟨A2, c2, rfl, hc2, hr2⟩ := ho2.sl (Az _)
    obtain ⟨L2, hL2⟩ : ∃ L, (wds V2).length = L := ⟨_, rfl⟩
    rw [hL2] at hc2 ho2 ⊢
    have C3 := Lh (De A2 L2 c2 (wds V2) w2 hL2 hc2 (by have := HLE2.out; omega) hr2)
    rw [Ag] at C3
    have HO2 := Lh ho2
    have hp : Below w2.heap.size w2 (lone w2 (.slice A2 L2 c2)) := (Below.refl _ _).alloc (Nat.le_refl _) _
    have HB2 := Lh (Aa hbw2 hp)
    have HO3 := Lh (ho2.below hp)
    have HL2 := Lh hL2
    clear ho2 hb2 hbw2 hc2 hr2 hL2 hp C1 C2
    cases hl : Am V2
    ·rw [hl] at C3
     have HLN := Lh hl
     clear hl
     go_wp2_with fail
     refine C3.out.mono ?_
     rintro e w3 ⟨rfl, rfl⟩
     go_wp2
     exact ⟨⟨_, _, rfl, HRN, Lh (by rw [HV2.out]; exact HO3.out), Lh (by rw [HV2.out]; exact HLN.out), HB2.out⟩, by
      have h1 := HM0.out
      have h2 := HRN.out.size
      have h3 := HRN.out.le
      have h4 := HR.out.size
      simp only [Ym]
      omega⟩
    ·rw [hl] at C3
     have HLN := Lh (Ks HMONO.out hl)
     clear hl
     go_wp2_with fail
     refine C3.out.mono ?_
     rintro e w3 ⟨rfl, rfl⟩
     go_wp2
     go_ret2
     exact NatPost.long HLN.out HB2.out

open Go.RowKit
theorem Nb (A : Option Addr) (n c g x : Nat) (l : List Nat) (N : Nat) (W : World) (hn : l.length = n) (hm : n ≤ 1024) (h : RW W W.heap.size A l) (g1 : RW W W.heap.size (some ⟨g, 0, none⟩) [x]) (hN : (wds (val l * x)).length = N) :
  Cp 265 #[.slice A n c, .slice (some ⟨g, 0, none⟩) 1 1] W (Kb (wds (val l * x)) N W) := by
 have := Pd A (some ⟨g, 0, none⟩) n c 1 1 l [x] W hn (by omega) h rfl (by omega) g1
 rw [show val [x] = x from by simp [val]] at this
 exact this.mono fun _ _ y => y.told hN
theorem Sw (A : Option Addr) (n c g x : Nat) (l : List Nat) (N : Nat) (W : World) (hn : l.length = n) (hm : n ≤ 4096) (h : RW W W.heap.size A l) (g1 : RW W W.heap.size (some ⟨g, 0, none⟩) [x]) (hN : (wds (val l + x)).length = N) :
  Cp 264 #[.slice A n c, .slice (some ⟨g, 0, none⟩) 1 1] W (Kb (wds (val l + x)) N W) := by
 have := E1 A (some ⟨g, 0, none⟩) n c 1 1 l [x] W hn (by omega) h rfl (by omega) g1
 rw [show val [x] = x from by simp [val]] at this
 exact this.mono fun _ _ y => y.told hN
theorem Gn (W : World) (x : Nat) (hx : x < 4294967296) : RW (W.alloc (.cells #[.int .u32 (x : Int)] 156)) (W.alloc (.cells #[.int .u32 (x : Int)] 156)).heap.size (some ⟨W.heap.size, 0, none⟩) [x] := (Zy W x hx).more (by simp)
theorem Ey {w W : World} (o : Obj) (h : Below w.heap.size w W) : Below w.heap.size w (W.alloc o) := h.alloc h.size _
theorem Aa7 (s : ByteArray) (r : Nat) (w : World) (hs : s.size ≤ 4611686018427387903) (h2 : 2 ≤ r) (h36 : r ≤ 36) (hd : ∀ i, i < s.size → dgt (btn s i) < r) (h0 : 0 < s.size) :
  Cp 314 #[.string s, .int .i64 r] w (NatPost (sv r s) w) := by
 have HD := Lh hd
 have H2 := Lh h2
 have H36 := Lh h36
 have hr1 : ¬ (r : Int) < 2 := by omega
 have hr2 : ¬ (36 : Int) < (r : Int) := by omega
 have hs1 : (s.size : Int) ≤ 4611686018427387903 := by omega
 have hs0 : ((s.size : Int) == 0) = false := by rw [beq_eq_false_iff_ne]; omega
 have kr : IntKind.u32.wrap (r : Int) = (r : Int) := IntWalk.u32_in _ (by omega)
 clear hd hs h2 h36 h0
 go_enter Tryz.func314, Tryz.ntmps314
 go_wp2
 go_loopw [6] (fun iv wr => ∃ k : Nat, iv = .int .i64 (k : Nat) ∧ k ≤ s.size ∧ w = wr) (fun iv _ => s.size - (intOf iv).toNat)
 case atStart => exact ⟨0, rfl, Nat.zero_le _, rfl⟩
 case round =>
  obtain ⟨k, rfl, hk, rfl⟩ := hrel
  by_cases hlt : k < s.size
  ·have C1 := Lh (fun W => show Cp 201 #[.int .u8 ((s[k]'hlt).toNat : Nat)] W fun e w' => e = .returned (.int .i64 (dgz (btn s k) : Nat)) ∧ W = w' from by
    rw [Dd s k hlt]; exact Cd _ W (E7 s k))
   have hk1 : (k : Int) < (s.size : Int) := by omega
   have hd := HD.out k hlt
   rw [Gu H36.out hd] at C1
   obtain ⟨d, hde⟩ : ∃ d, dgt (btn s k) = d := ⟨_, rfl⟩
   rw [hde] at C1 hd
   have a1 : ¬ (r : Int) ≤ (d : Int) := by omega
   clear hde hd
   go_wp2_with fail
   refine Sm (C1.out _) ?_
   go_wp2
   go_roundw
   case rel => exact ⟨k + 1, by go_num, by omega, trivial⟩
   case measure => simp [intOf]; omega
  ·have hks : k = s.size := by omega
   subst hks
   clear hlt hk
   go_wp2
   go_loopw [7, 8] (fun av iv wr => ∃ o : Nat, iv = .int .i64 (o : Nat) ∧ o ≤ s.size ∧ Hid (Sl wr wr.heap.size av (wds (pv r (fun i => dgt (btn s i)) o))) ∧ Hid (Am (pv r (fun i => dgt (btn s i)) o) = false) ∧ Below w.heap.size w wr) (fun _ iv _ => s.size - (intOf iv).toNat)
   case atStart => exact ⟨0, rfl, Nat.zero_le _, Lh (Sl.nil _ _ _), Lh (D0 (by simp [pv])), Below.refl _ _⟩
   case round =>
    obtain ⟨o, rfl, ho, HS, HL, hbw⟩ := hrel
    obtain ⟨V, hV⟩ : ∃ V, pv r (fun i => dgt (btn s i)) o = V := ⟨_, rfl⟩
    rw [hV] at HS HL
    have HV := Lh hV
    obtain ⟨A0, c0, rfl, hc0, hr0⟩ := HS.out
    obtain ⟨L0, hL0⟩ : ∃ L, (wds V).length = L := ⟨_, rfl⟩
    have hle := Zs HL.out
    rw [hL0] at hc0 hle ⊢
    by_cases hlt : o < s.size
    ·have hd := HD.out o hlt
     have hx1 : (o : Int) < (s.size : Int) := by omega
     have C1 := Lh (fun W => show Cp 201 #[.int .u8 ((s[o]'hlt).toNat : Nat)] W fun e w' => e = .returned (.int .i64 (dgt (btn s o) : Nat)) ∧ W = w' from by
      rw [Dd s o hlt, ← Gu H36.out hd]; exact Cd _ W (E7 s o))
     have hpv : pv r (fun i => dgt (btn s i)) (o + 1) = V * r + dgt (btn s o) := by rw [← hV]; rfl
     have hd36 := N1 (btn s o)
     obtain ⟨d, hde⟩ : ∃ d, dgt (btn s o) = d := ⟨_, rfl⟩
     rw [hde] at C1 hpv hd36
     have kd : IntKind.u32.wrap (d : Int) = (d : Int) := IntWalk.u32_in _ (by omega)
     obtain ⟨L1, hL1⟩ : ∃ L, (wds (V * r)).length = L := ⟨_, rfl⟩
     obtain ⟨L2, hL2⟩ : ∃ L, (wds (V * r + d)).length = L := ⟨_, rfl⟩
     have l1 : L1 ≤ 1025 := by
      have h1 := Et V r
      have h3 : (wds r).length ≤ 1 := Bd (by have := H36.out; omega)
      omega
     have l2 : L2 ≤ 1026 := by
      have h1 := Jx (V * r) d
      have h3 : (wds d).length ≤ 1 := Bd (by omega)
      omega
     have K1 := Lh (fun W g (hb : Below wr.heap.size wr W) (g1 : RW W W.heap.size (some ⟨g, 0, none⟩) [r]) => show Cp 265 #[.slice A0 L0 c0, .slice (some ⟨g, 0, none⟩) 1 1] W (Kb (wds (V * r)) L1 W) from by
      have := Nb A0 L0 c0 g r (wds V) L1 W hL0 hle (hr0.step hb) g1 (by rw [Ag]; exact hL1)
      rw [Ag] at this; exact this)
     have K2 := Lh (fun W A2 c2 g (r2 : RW W W.heap.size A2 (wds (V * r))) (g1 : RW W W.heap.size (some ⟨g, 0, none⟩) [d]) => show Cp 264 #[.slice A2 L1 c2, .slice (some ⟨g, 0, none⟩) 1 1] W (Kb (wds (V * r + d)) L2 W) from by
      have := Sw A2 L1 c2 g d (wds (V * r)) L2 W hL1 (by omega) r2 g1 (by rw [Ag]; exact hL2)
      rw [Ag] at this; exact this)
     have HLR := Lh (fun W => Gn W r (by have := H36.out; omega))
     have HLD := Lh (fun W => Gn W d (by omega))
     have HPV := Lh hpv
     have HL2 := Lh hL2
     clear hpv hL2
     clear hV hL0 hle hc0 hr0 hd hde hd36 hL1 l1
     go_wp2
     go_region_held3 (fun w' => True) (trivial) (first | (go_at_call 265; refine (K1.out _ _ (Ac ((Below.refl _ _).alloc (Nat.le_refl _) _) 1) ((HLR.out wr).drewN 1)).mono ?_; rintro e w2 ⟨A2, c2, rfl, ⟨hc2, r2⟩, b2⟩) | (go_at_call 201; refine (C1.out _).mono ?_; rintro e w' ⟨rfl, rfl⟩) | (go_at_call 264; refine (K2.out _ _ _ _ (r2.step ((Below.refl _ _).alloc (Nat.le_refl _) _)) (HLD.out _)).mono ?_; rintro e w3 ⟨A3, c3, rfl, ⟨hc3, r3⟩, b3⟩))
     all_goals
      have B2 : Below w.heap.size w w2 := Aa (Ac (hbw.alloc hbw.size _) 1) b2
      have B3 : Below w.heap.size w w3 := Aa (B2.alloc B2.size _) b3
      clear r2 b2 b3 B2 hc2 K1 K2
      have C5 := Lh (Acc A3 L2 c3 (wds (V * r + d)) w3.heap.size w3 HL2.out hc3 (by omega) r3)
      rw [Ag, ← HPV.out] at C5
      have HSL := Lh (fun (w4 : World) (b4 : Below w3.heap.size w3 w4) => (⟨A3, c3, by rw [HL2.out], by rw [HL2.out]; exact hc3, r3.step b4⟩ : Sl w4 w4.heap.size (.slice A3 L2 c3) (wds (V * r + d))))
      have HB3 := Lh B3
      clear r3 hc3 B3
      cases hl : Am (pv r (fun i => dgt (btn s i)) (o + 1))
      ·rw [hl] at C5
       have HLN := Lh hl
       clear hl
       go_wp2_with fail
       refine C5.out.mono ?_
       rintro e w4 ⟨rfl, b4⟩
       have HS4 := Lh (HSL.out w4 b4)
       have HB4 := Lh (Aa HB3.out b4)
       clear b4 C5
       go_wp2
       go_roundw
       case rel => exact ⟨o + 1, by go_num, by omega, Lh (by rw [HPV.out]; exact HS4.out), HLN, HB4.out⟩
       case measure => simp [intOf]; omega
      ·rw [hl] at C5
       have HLN := Lh (Ks (v := sv r s) (Mr (by have := H2.out; omega) (by omega)) hl)
       clear hl
       go_wp2_with fail
       refine C5.out.mono ?_
       rintro e w4 ⟨rfl, b4⟩
       have HB4 := Lh (Aa HB3.out b4)
       clear b4 C5
       go_wp2
       go_ret2
       exact NatPost.long HLN.out HB4.out
    ·have hos : o = s.size := by omega
     have HF := Lh (show NatPost (sv r s) w (.returned (.tuple #[.slice A0 L0 c0, .int .i64 0])) wr from by
      have e : V = sv r s := by rw [← HV.out, hos]; rfl
      rw [← e]
      exact NatPost.ok HL.out hL0.symm hc0 hr0 hbw)
     have b0 : ¬ (o : Int) < (s.size : Int) := by omega
     clear hos hlt hc0 hr0 hL0 hle hV
     go_wp2
     go_ret2
     exact HF.out

open Go.RowKit
open Go.RowKit
open Go.RowKit
open Go.RowKit
end
section
def wdsT : List Nat := [32, 98, 114, 101, 97, 107, 32, 99, 97, 115, 101, 32, 99, 97, 116, 99, 104, 32, 99, 108, 97, 115, 115, 32, 99, 111, 110, 115, 116, 32, 99, 111, 110, 116, 105, 110, 117, 101, 32, 100, 101, 98, 117, 103, 103, 101, 114, 32, 100, 101, 102, 97, 117, 108, 116, 32, 100, 101, 108, 101, 116, 101, 32, 100, 111, 32, 101, 108, 115, 101, 32, 101, 110, 117, 109, 32, 101, 120, 112, 111, 114, 116, 32, 101, 120, 116, 101, 110, 100, 115, 32, 102, 97, 108, 115, 101, 32, 102, 105, 110, 97, 108, 108, 121, 32, 102, 111, 114, 32, 102, 117, 110, 99, 116, 105, 111, 110, 32, 105, 102, 32, 105, 109, 112, 108, 101, 109, 101, 110, 116, 115, 32, 105, 109, 112, 111, 114, 116, 32, 105, 110, 32, 105, 110, 115, 116, 97, 110, 99, 101, 111, 102, 32, 105, 110, 116, 101, 114, 102, 97, 99, 101, 32, 108, 101, 116, 32, 110, 101, 119, 32, 110, 117, 108, 108, 32, 112, 97, 99, 107, 97, 103, 101, 32, 112, 114, 105, 118, 97, 116, 101, 32, 112, 114, 111, 116, 101, 99, 116, 101, 100, 32, 112, 117, 98, 108, 105, 99, 32, 114, 101, 116, 117, 114, 110, 32, 115, 116, 97, 116, 105, 99, 32, 115, 117, 112, 101, 114, 32, 115, 119, 105, 116, 99, 104, 32, 116, 104, 105, 115, 32, 116, 104, 114, 111, 119, 32, 116, 114, 117, 101, 32, 116, 114, 121, 32, 116, 121, 112, 101, 111, 102, 32, 118, 97, 114, 32, 118, 111, 105, 100, 32, 119, 104, 105, 108, 101, 32, 119, 105, 116, 104, 32, 121, 105, 101, 108, 100, 32]
def Xx : Nat → List Nat → List (List Nat)
 | 0, _ => []
 | f + 1, l => match l.takeWhile (· != 32) with
  | [] => match l with
   | [] => []
   | _ :: r => Xx f r
  | c :: t => (c :: t) :: Xx f (l.dropWhile (· != 32))
def wordsL : List (List Nat) := Xx 700 wdsT
def Il (u : List Nat) : Bool := wordsL.contains u
def Ie (u : List Nat) (i : Nat) : Bool := wdsT[i]? == some 32 && wdsT[i + u.length + 1]? == some 32 && (wdsT.drop (i + 1)).take u.length == u && u.all (· != 32)
theorem Ah1 {u : List Nat} {i : Nat} (h : Ie u i = true) : wdsT[i]? = some 32 ∧ (wdsT.drop (i + 1)).takeWhile (· != 32) = u := by
 unfold Ie at h
 rw [Bool.and_eq_true, Bool.and_eq_true, Bool.and_eq_true, beq_iff_eq, beq_iff_eq, beq_iff_eq] at h
 obtain ⟨⟨⟨h1, h2⟩, h3⟩, h4⟩ := h
 refine ⟨h1, ?_⟩
 have h5 : (wdsT.drop (i + 1)).drop u.length = 32 :: (wdsT.drop (i + 1)).drop (u.length + 1) := by
  have hlt : u.length < (wdsT.drop (i + 1)).length := by
   rw [List.length_drop]
   have := (List.getElem?_eq_some_iff.1 h2).1
   omega
  rw [List.drop_eq_getElem_cons hlt]
  congr 1
  have e := List.getElem?_eq_some_iff.1 h2
  obtain ⟨e1, e2⟩ := e
  rw [List.getElem_drop]
  have : i + 1 + u.length = i + u.length + 1 := by omega
  simp only [this]
  exact e2
 have h6 : wdsT.drop (i + 1) = u ++ 32 :: (wdsT.drop (i + 1)).drop (u.length + 1) := by
  rw [← h5]
  conv => lhs; rw [← List.take_append_drop u.length (wdsT.drop (i + 1))]
  rw [h3]
 rw [h6, List.takeWhile_append_of_pos (fun c hc => List.all_eq_true.1 h4 c hc)]
 simp
theorem Ai5 : ∀ i : Fin 320, wdsT[i.val]? = some 32 → (wdsT.drop (i.val + 1)).takeWhile (· != 32) = [] ∨ wordsL.contains ((wdsT.drop (i.val + 1)).takeWhile (· != 32)) = true := by decide +kernel
theorem Aij : wordsL.all (fun u => (List.range 320).any (fun i => Ie u i)) = true := by decide +kernel
theorem Ad1 : wdsT.length ≤ 320 := by decide +kernel
theorem Aiq {u : List Nat} (hu : u ≠ []) : Il u = true ↔ ∃ i, Ie u i = true := by
 constructor
 ·intro h
  have h1 := List.all_eq_true.1 Aij u (List.contains_iff_mem.1 h)
  obtain ⟨i, _, hi⟩ := List.any_eq_true.1 h1
  exact ⟨i, hi⟩
 ·rintro ⟨i, hi⟩
  obtain ⟨h1, h2⟩ := Ah1 hi
  have hlt : i < 320 := by
   have := (List.getElem?_eq_some_iff.1 h1).1
   have := Ad1
   omega
  rcases Ai5 ⟨i, hlt⟩ h1 with h | h
  ·rw [h2] at h
   exact absurd h hu
  ·rw [h2] at h
   exact h
/-! ### Marks -/
def marksL : List (List Nat) := [[62, 62, 62, 61], [61, 61, 61], [33, 61, 61], [62, 62, 62], [60, 60, 61], [62, 62, 61], [60, 61], [62, 61], [61, 61], [33, 61], [43, 43], [45, 45], [60, 60], [62, 62], [38, 38], [124, 124], [43, 61], [45, 61], [42, 61], [37, 61], [38, 61], [124, 61], [94, 61], [47, 61], [123], [125], [40], [41], [91], [93], [46], [59], [44], [60], [62], [43], [45], [42], [37], [38], [124], [94], [33], [126], [63], [58], [61], [47]]
def Eh (l : List Nat) : Option (List Nat) := marksL.find? fun t => t.isPrefixOf l
def Fy (t : List Nat) : Bool := marksL.contains t
theorem Qy : marksL.Pairwise fun a b => b.length ≤ a.length := by decide +kernel
theorem Aa5 : ∀ t ∈ marksL, 1 ≤ t.length ∧ t.length ≤ 4 := by decide +kernel
theorem Ng {q : List Nat → Bool} : ∀ {M : List (List Nat)} {t : List Nat}, M.Pairwise (fun a b => b.length ≤ a.length) → M.find? q = some t → t ∈ M ∧ q t = true ∧ ∀ s ∈ M, q s = true → s.length ≤ t.length
 | [], _, _, h => by cases h
 | a :: M, t, hp, h => by
  rw [List.find?_cons] at h
  cases hq : q a
  ·rw [hq] at h
   obtain ⟨h1, h2, h3⟩ := Ng (List.pairwise_cons.1 hp).2 h
   refine ⟨List.mem_cons_of_mem _ h1, h2, fun s hs hqs => ?_⟩
   rcases List.mem_cons.1 hs with rfl | hs
   ·rw [hq] at hqs
    cases hqs
   ·exact h3 s hs hqs
  ·rw [hq] at h
   cases h
   refine ⟨List.mem_cons_self, hq, fun s hs _ => ?_⟩
   rcases List.mem_cons.1 hs with rfl | hs
   ·exact Nat.le_refl _
   ·exact (List.pairwise_cons.1 hp).1 s hs
theorem Kp {l t : List Nat} (h : Eh l = some t) : 1 ≤ t.length ∧ t.length ≤ 4 ∧ l.take t.length = t ∧ Fy t = true ∧ ∀ k, t.length ≤ k → k ≤ 4 → Fy (l.take k) = true → l.take k = t := by
 obtain ⟨h1, h2, h3⟩ := Ng Qy h
 obtain ⟨h4, h5⟩ := Aa5 t h1
 obtain ⟨r, hr⟩ := List.isPrefixOf_iff_prefix.1 h2
 refine ⟨h4, h5, by rw [← hr, List.take_left], List.contains_iff_mem.2 h1, fun k k1 k2 hk => ?_⟩
 have hm : l.take k ∈ marksL := List.contains_iff_mem.1 hk
 have hle := h3 _ hm (List.isPrefixOf_iff_prefix.2 (List.take_prefix k l))
 have hlen : t.length ≤ l.length := by rw [← hr, List.length_append]; omega
 rw [List.length_take] at hle
 rcases (show k = t.length ∨ l.length = t.length by omega) with e | e
 ·rw [e, ← hr, List.take_left]
 ·have : r = [] := by
   have := congrArg List.length hr
   rw [List.length_append] at this
   exact List.eq_nil_of_length_eq_zero (by omega)
  rw [List.take_of_length_le (by omega), ← hr, this, List.append_nil]
theorem Aan {l : List Nat} (h : Eh l = none) (k : Nat) : Fy (l.take k) = false := by
 cases hm : Fy (l.take k)
 ·rfl
 ·have h1 : l.take k ∈ marksL := List.contains_iff_mem.1 hm
  have h2 := List.find?_eq_none.1 h _ h1
  exact absurd (List.isPrefixOf_iff_prefix.2 (List.take_prefix k l)) h2


end
section
theorem Sq {W r : List Nat} (hW : ∀ c ∈ W, Ah c = true) (hr : ∀ c, r.head? = some c → Ah c = false) : Af (W ++ r) = W ∧ Ai (W ++ r) = r := by
 induction W with
 | nil =>
  cases r with
  | nil => exact ⟨rfl, rfl⟩
  | cons c r =>
   have h := hr c rfl
   unfold Af Ai
   rw [List.nil_append, List.takeWhile_cons_of_neg (by simp [h]), List.dropWhile_cons_of_neg (by simp [h])]
   exact ⟨rfl, rfl⟩
 | cons c W ih =>
  obtain ⟨i1, i2⟩ := ih (fun x hx => hW x (by simp [hx]))
  have h := hW c (by simp)
  unfold Af Ai at *
  rw [List.cons_append, List.takeWhile_cons_of_pos h, List.dropWhile_cons_of_pos h, i1, i2]
  exact ⟨rfl, rfl⟩
end
section
def Dx (l : List Nat) : Nat := if hxA l = true then 2 + ((l.drop 2).takeWhile Bh).length else l.length - (dR l).length
def Ds (l : List Nat) : Nat :=
 if hxA l = true then 2 + ((l.drop 2).takeWhile Bh).length
 else if (dT l).head? = some 101 ∨ (dT l).head? = some 69 then l.length - (expR (dT l)).length
 else l.length - (dT l).length
def Ja (l : List Nat) (n : Nat) : Bool := Hd (l.take n) && !(ptN (hd0 (l.drop n)) || hd0 (l.drop n) == 92)
theorem Aiu : ptN 101 = true ∧ ptN 69 = true := by decide +kernel
theorem Ro (l : List Nat) : ∃ X, l = X ++ dT l := by
 unfold dT
 have h := E8 l
 split
 ·rename_i hd
  unfold Fz at hd
  rw [beq_iff_eq] at hd
  cases hq : Ai l with
  | nil => rw [hq] at hd; cases hd
  | cons a q =>
   refine ⟨Af l ++ a :: Af q, ?_⟩
   rw [List.tail_cons]
   have h2 := E8 q
   calc l = Af l ++ Ai l := h.symm
    _ = Af l ++ a :: (Af q ++ Ai q) := by rw [hq, h2]
    _ = Af l ++ a :: Af q ++ Ai q := by simp
 ·exact ⟨Af l, h.symm⟩
theorem Ai2 {l X y : List Nat} (hl : l = X ++ dT l) (hy : ∀ c, y.head? = some c → Ah c = false ∧ c ≠ 46) : dT (X ++ y) = y := by
 have hrun := E8 l
 have hall := Br l
 have y1 : ∀ c, y.head? = some c → Ah c = false := fun c hc => (hy c hc).1
 cases hd : Fz (Ai l)
 ·have ht : dT l = Ai l := by unfold dT; rw [hd, if_neg (by simp)]
  have hX : X = Af l := by
   rw [ht] at hl
   have := hl.symm.trans hrun.symm
   exact List.append_cancel_right this
  obtain ⟨a1, a2⟩ := Sq (W := Af l) (r := y) hall y1
  unfold dT
  rw [hX, a2]
  have : Fz y = false := by
   unfold Fz
   rw [beq_eq_false_iff_ne]
   intro h
   exact (hy 46 h).2 rfl
  rw [this, if_neg (by simp)]
 ·have hd' := hd
  unfold Fz at hd'
  rw [beq_iff_eq] at hd'
  cases hq : Ai l with
  | nil => rw [hq] at hd'; cases hd'
  | cons a q =>
   rw [hq] at hd'
   have ha : a = 46 := by simpa using hd'
   subst ha
   have ht : dT l = Ai q := by unfold dT; rw [hd, if_pos rfl, hq, List.tail_cons]
   have hrq := E8 q
   have hX : X = Af l ++ 46 :: Af q := by
    have e : l = Af l ++ 46 :: Af q ++ Ai q := by
     calc l = Af l ++ Ai l := hrun.symm
      _ = Af l ++ 46 :: (Af q ++ Ai q) := by rw [hq, hrq]
      _ = Af l ++ 46 :: Af q ++ Ai q := by simp
    rw [ht] at hl
    exact List.append_cancel_right (hl.symm.trans e)
   obtain ⟨b1, b2⟩ := Sq (W := Af q) (r := y) (Br q) y1
   obtain ⟨a1, a2⟩ := Sq (W := Af l) (r := 46 :: (Af q ++ y)) hall (fun c hc => by
    have : c = 46 := by simpa using hc.symm
    subst this
    decide)
   have e : X ++ y = Af l ++ 46 :: (Af q ++ y) := by rw [hX]; simp
   unfold dT
   rw [e, a2]
   have : Fz (46 :: (Af q ++ y)) = true := by unfold Fz; rfl
   rw [this, if_pos rfl, List.tail_cons, b2]
theorem Ad2 {l : List Nat} {n : Nat} (h : hxA (l.take n) = true) : hxA l = true := by
 unfold hxA at h ⊢
 cases l with
 | nil => simp at h
 | cons a t =>
  cases n with
  | zero => simp at h
  | succ n =>
   cases t with
   | nil => simp at h
   | cons b u =>
    cases n with
    | zero => simp at h
    | succ n => simpa using h
theorem Aec (l : List Nat) : ∃ s, l = s ++ unsg l ∧ s.length ≤ 1 := by
 unfold unsg
 split
 ·cases l with
  | nil => exact ⟨[], rfl, by simp⟩
  | cons a t => exact ⟨[a], rfl, by simp⟩
 ·exact ⟨[], rfl, by simp⟩
theorem Xh {s : List Nat} (h : s.length ≤ 1) (l : List Nat) (hs : s ++ unsg l = l) : Af (unsg s) = [] ∨ unsg l = l := by
 cases s with
 | nil => left; rfl
 | cons a t =>
  have ht : t = [] := List.eq_nil_of_length_eq_zero (by rw [List.length_cons] at h; omega)
  subst ht
  by_cases hc : a = 45 ∨ a = 43
  ·left
   unfold unsg
   rw [if_pos (by rcases hc with rfl | rfl <;> simp)]
   rfl
  ·right
   rw [← hs]
   unfold unsg
   rw [if_neg (by simpa using hc)]
theorem Adf (l : List Nat) : Ja l (Ds l) = Ja l (Dx l) ∧ (Ja l (Dx l) = true → Ds l = Dx l) := by
 by_cases hx : hxA l = true
 ·unfold Ds Dx
  rw [if_pos hx, if_pos hx]
  exact ⟨rfl, fun _ => rfl⟩
 obtain ⟨X, hX⟩ := Ro l
 obtain ⟨t, ht⟩ : ∃ t, dT l = t := ⟨_, rfl⟩
 by_cases he : t.head? = some 101 ∨ t.head? = some 69
 ·cases hb : Dq t
  ·-- an exponent without digits: neither is a number
   have hR : Dx l = X.length := by
    unfold Dx dR exR
    rw [if_neg hx, ht, hb, if_neg (by simp), ← ht]
    have := congrArg List.length hX
    rw [List.length_append] at this
    omega
   cases t with
   | nil => simp at he
   | cons c q =>
    have hc : c = 101 ∨ c = 69 := by simpa using he
    have hrun : Af (unsg q) = [] := by
     unfold Dq at hb
     rw [List.tail_cons] at hb
     have h1 : ((c :: q).head? == some 101 || (c :: q).head? == some 69) = true := by rcases hc with rfl | rfl <;> rfl
     rw [h1, Bool.true_and] at hb
     simpa using hb
    obtain ⟨s, hs, hs1⟩ := Aec q
    have hexp : expR (c :: q) = unsg q := by
     unfold expR
     rw [List.tail_cons]
     have := E8 (unsg q)
     rw [hrun, List.nil_append] at this
     exact this
    have hl : l = X ++ (c :: q) := by rw [← ht]; exact hX
    have hP : Ds l = X.length + 1 + s.length := by
     unfold Ds
     rw [if_neg hx, ht, if_pos he, hexp]
     have h1 := congrArg List.length hl
     have h2 := congrArg List.length hs
     rw [List.length_append, List.length_cons] at h1
     rw [List.length_append] at h2
     omega
    have hoR : Ja l (Dx l) = false := by
     unfold Ja
     rw [hR, hl, List.drop_left]
     have : ptN (hd0 (c :: q)) = true := by
      show ptN c = true
      rcases hc with rfl | rfl
      ·exact Aiu.1
      ·exact Aiu.2
     rw [this, Bool.true_or, Bool.not_true, Bool.and_false]
    have hoP : Ja l (Ds l) = false := by
     have htk : l.take (X.length + 1 + s.length) = X ++ (c :: s) := by
      have e : l = (X ++ (c :: s)) ++ unsg q := by
       rw [hl]
       conv => lhs; rw [hs]
       simp
      have hlen : X.length + 1 + s.length = (X ++ (c :: s)).length := by rw [List.length_append, List.length_cons]; omega
      conv => lhs; rw [e]
      rw [hlen, List.take_left]
     unfold Ja
     rw [hP, htk]
     have hlit : Hd (X ++ (c :: s)) = false := by
      have hdT := Ai2 (y := c :: s) hX (fun d hd => by
       have : d = c := by simpa using hd.symm
       subst this
       rcases hc with rfl | rfl <;> exact ⟨by decide, by omega⟩)
      have hne : Dq (c :: s) = false := by
       unfold Dq
       rw [List.tail_cons]
       have hr : Af (unsg s) = [] := by
        rcases Xh hs1 q hs.symm with h | h
        ·exact h
        ·have hs0 : s = [] := by
          have := congrArg List.length hs
          rw [h, List.length_append] at this
          exact List.eq_nil_of_length_eq_zero (by omega)
         rw [hs0]
         rfl
       rw [hr]
       simp
      have hdR : dR (X ++ (c :: s)) = c :: s := by
       unfold dR exR
       rw [hdT, hne, if_neg (by simp)]
      have hhx : hxB (X ++ (c :: s)) = false := by
       unfold hxB
       cases hxa : hxA (X ++ (c :: s))
       ·rfl
       ·rw [← htk] at hxa
        exact absurd (Ad2 hxa) hx
      unfold Hd
      rw [hhx, hdR]
      simp
     rw [hlit, Bool.false_and]
    rw [hoP, hoR]
    exact ⟨rfl, fun h => by cases h⟩
  ·have e : Ds l = Dx l := by
    unfold Ds Dx dR exR
    rw [if_neg hx, if_neg hx, ht, if_pos he, hb, if_pos rfl]
   rw [e]
   exact ⟨rfl, fun _ => rfl⟩
 ·have e : Ds l = Dx l := by
   have hb : Dq t = false := by
    unfold Dq
    cases h1 : (t.head? == some 101 || t.head? == some 69)
    ·rfl
    ·rw [Bool.or_eq_true, beq_iff_eq, beq_iff_eq] at h1
     exact absurd h1 he
   unfold Ds Dx dR exR
   rw [if_neg hx, if_neg hx, ht, if_neg he, hb, if_neg (by simp)]
  rw [e]
  exact ⟨rfl, fun _ => rfl⟩


end
section
theorem J5 {l : List Nat} {a : Nat} (ha : a ≠ 0) (h : hd0 l = a) : ∃ r, l = a :: r := by
 cases l with
 | nil => exact absurd h.symm ha
 | cons b r => exact ⟨r, by rw [show b = a from h]⟩
theorem Agk (l : List Nat) : Ef l ≤ l.length := (List.takeWhile_sublist _).length_le
theorem Adw : ∀ {l : List Nat} {n : Nat} {b : Bool}, Gb l = some (n, b) → 2 ≤ n ∧ n ≤ l.length
 | [], _, _, h => by cases h
 | c :: r, n, b, h => by
  rw [Gb] at h
  split at h
  ·rename_i hc
   obtain ⟨q, hq⟩ := J5 (by omega) hc.2
   have h2 : 2 = n := congrArg Prod.fst (Option.some.inj h)
   rw [hq, ← h2]
   simp
  ·cases hr : Gb r with
   | none => rw [hr] at h; cases h
   | some p =>
    rw [hr] at h
    have h2 : p.1 + 1 = n := congrArg Prod.fst (Option.some.inj h)
    have := Adw hr
    rw [List.length_cons]
    omega
theorem Rq {l : List Nat} {n : Nat} {b : Bool} (h : Ow l = some (n, b)) : n ≤ l.length := by
 cases l with
 | nil =>
  have : 0 = n := congrArg Prod.fst (Option.some.inj h)
  omega
 | cons c r =>
  rw [Ow] at h
  rw [List.length_cons]
  split at h
  ·have : 1 = n := congrArg Prod.fst (Option.some.inj h)
   omega
  ·split at h
   ·have : 1 = n := congrArg Prod.fst (Option.some.inj h)
    omega
   ·split at h
    ·rename_i hc
     obtain ⟨q, hq⟩ := J5 (by omega) hc.2
     have h2 : 2 + Ef r.tail = n := congrArg Prod.fst (Option.some.inj h)
     have := Agk r.tail
     rw [hq] at h2 this ⊢
     rw [List.tail_cons] at h2 this
     rw [List.length_cons]
     omega
    ·split at h
     ·rename_i hc
      obtain ⟨q, hq⟩ := J5 (by omega) hc.2
      cases hr : Gb r.tail with
      | none => rw [hr] at h; cases h
      | some p =>
       rw [hr] at h
       have h2 : 2 + p.1 = n := congrArg Prod.fst (Option.some.inj h)
       have := Adw hr
       rw [hq, List.tail_cons] at this
       rw [hq, List.length_cons]
       omega
     ·have : 0 = n := congrArg Prod.fst (Option.some.inj h)
      omega
theorem Pf : ∀ (f g : Nat) (l : List Nat), l.length < f → l.length < g → Gy f l = Gy g l
 | 0, _, _, h, _ => by omega
 | _ + 1, 0, _, _, h => by omega
 | f + 1, g + 1, l, hf, hg => by
  rw [Gy, Gy]
  cases hq : Ow l with
  | none => rfl
  | some p =>
   obtain ⟨n, b⟩ := p
   cases n with
   | zero => rfl
   | succ n =>
    have hle := Rq hq
    have e := Pf f g (l.drop (n + 1)) (by rw [List.length_drop]; omega) (by rw [List.length_drop]; omega)
    simp only [e]
theorem Vp : ∀ (f : Nat) (l : List Nat), (Gy f l).1 ≤ l.length
 | 0, l => Nat.zero_le _
 | f + 1, l => by
  rw [Gy]
  cases hq : Ow l with
  | none => exact Nat.zero_le _
  | some p =>
   obtain ⟨n, b⟩ := p
   cases n with
   | zero => exact Nat.zero_le _
   | succ n =>
    have h1 := Rq hq
    have h2 := Vp f (l.drop (n + 1))
    rw [List.length_drop] at h2
    show n + 1 + _ ≤ _
    omega
theorem Hk (l : List Nat) : (As l).1 ≤ l.length := Vp _ l
def N8 (l : List Nat) : Option (Nat × Nat) := if Ja l (Dx l) = true then some (Jv (l.take (Dx l)), Dx l) else none
def Dn : List Nat → Option (Nat × List Nat × Nat × Bool × Nat)
 | [] => some (1, [], 0, false, 0)
 | c :: r =>
  if (stN c || c == 92) = true then (Nj (c :: r)).map fun p => (if Il p.1 = true then 3 else 2, p.1, 0, p.2.1, p.2.2)
  else if (c == 34 || c == 39) = true then (Fa c r).map fun p => (6, p.1, 0, false, 1 + p.2)
  else if (Ah c || (c == 46 && Ah (hd0 r))) = true then (N8 (c :: r)).map fun p => (5, [], p.1, false, p.2)
  else (Eh (c :: r)).map fun t => (4, t, 0, false, t.length)
structure Tok where
 kind : Nat
 text : List Nat
 num : Nat
 esc : Bool
 nl : Bool
 pos : Nat
 fin : Nat
def Ov : Nat → Nat → List Nat → Nat × Option (List Tok)
 | 0, p, _ => (p, none)
 | f + 1, p, l =>
  let s := As l
  if s.2.2 = false then (p + s.1, none)
  else match Dn (l.drop s.1) with
   | none => (p + s.1, none)
   | some (k, t, x, e, n) =>
    if k = 1 then (0, some [⟨k, t, x, e, s.2.1, p + s.1, p + s.1 + n⟩])
    else match Ov f (p + s.1 + n) (l.drop (s.1 + n)) with
     | (q, none) => (q, none)
     | (_, some ts) => (0, some (⟨k, t, x, e, s.2.1, p + s.1, p + s.1 + n⟩ :: ts))
def O4 (l : List Nat) : Nat × Option (List Tok) := Ov (l.length + 1) 0 l
end
section
def Akm (L : List Nat) (N : Nat) (w : World) (e : Ending) (w' : World) : Prop := ∃ A c, e = .returned (.tuple #[.slice A N c, .int .i64 0]) ∧ (N ≤ c ∧ RW w' w'.heap.size A L) ∧ Below w.heap.size w w'
theorem NatPost.one {v N : Nat} {w w' : World} {e : Ending} (h : NatPost v w e w') (hl : Am v = false) (hN : (wds v).length = N) : Akm (wds v) N w e w' := by
 obtain ⟨A, c, h1, h2, h3⟩ := h.get hl
 rw [hN] at h1 h2
 exact ⟨A, c, h1, h2, h3⟩
structure LongT (A D n M i : Nat) (R Q : List Nat) : Prop where
 lenR : R.length = M + n
 lenQ : Q.length = M
 wsR : Ws R
 wsQ : Ws Q
 sum : val R + 4294967296 ^ i * (val (Q.drop i) * D) = A
 rest : val (R.drop i) < D
theorem LongT.start {va vb s la n M : Nat} {R : List Nat} (hR : Ws R) (hl : R.length = M + n) (hM : la + 1 = M + n) (hn : 0 < n) (ha : va < 4294967296 ^ la) (hb : 4294967296 ^ (n - 1) ≤ vb) (hv : val R = 2 ^ s * va) :
  LongT (2 ^ s * va) (2 ^ s * vb) n M M R (List.replicate M 0) := by
 refine ⟨hl, List.length_replicate, hR, Ws.zeros _, ?_, ?_⟩
 ·rw [List.drop_of_length_le (by rw [List.length_replicate]; exact Nat.le_refl _)]
  simp [val, hv]
 ·have e := Ea R M (by omega)
  rw [hv] at e
  have e2 : 4294967296 ^ la = 4294967296 ^ M * 4294967296 ^ (n - 1) := by rw [← Nat.pow_add]; congr 1; omega
  have h1 : 2 ^ s * va < 2 ^ s * (4294967296 ^ M * 4294967296 ^ (n - 1)) := by rw [← e2]; exact Nat.mul_lt_mul_of_pos_left ha (Nat.two_pow_pos s)
  have h2 : 4294967296 ^ M * val (R.drop M) < 4294967296 ^ M * (2 ^ s * 4294967296 ^ (n - 1)) := by
   have : 4294967296 ^ M * (2 ^ s * 4294967296 ^ (n - 1)) = 2 ^ s * (4294967296 ^ M * 4294967296 ^ (n - 1)) := by grind
   omega
  have h3 := Nat.lt_of_mul_lt_mul_left h2
  exact Nat.lt_of_lt_of_le h3 (Nat.mul_le_mul_left _ hb)
theorem LongT.part {A D n M i : Nat} {R Q : List Nat} (h : LongT A D n M (i + 1) R Q) (hi : i < M) (hD : D < 4294967296 ^ n) :
  val ((R.drop i).take (n + 1)) = val (R.drop i) ∧ val ((R.drop i).take (n + 1)) < 4294967296 * D := by
 have e := Cz R i (by have := h.lenR; omega)
 have h1 := h.wsR.getD i
 have h2 := h.rest
 have h3 : val (R.drop i) < 4294967296 * D := by
  have : 4294967296 * (val (R.drop (i + 1)) + 1) ≤ 4294967296 * D := Nat.mul_le_mul_left _ h2
  omega
 have h4 : val (R.drop i) < 4294967296 ^ (n + 1) := by
  rw [Nat.pow_succ, Nat.mul_comm]
  exact Nat.lt_trans h3 (Nat.mul_lt_mul_of_pos_left hD (by omega))
 have h5 := Mx h4
 exact ⟨h5, by rw [h5]; exact h3⟩
theorem LongT.next {A D n M i : Nat} {R Q S : List Nat} (h : LongT A D n M (i + 1) R Q) (hi : i < M) (hD : D < 4294967296 ^ n) (hD0 : 0 < D)
  (hlen : S.length = R.length) (hws : Ws S) (hfar : ∀ j, j < i ∨ i + (n + 1) ≤ j → S.getD j 0 = R.getD j 0)
  (hs : val ((S.drop i).take (n + 1)) = val ((R.drop i).take (n + 1)) % D) :
  LongT A D n M i S (Q.set i (val ((R.drop i).take (n + 1)) / D)) := by
 obtain ⟨p1, p2⟩ := h.part hi hD
 obtain ⟨h1, h2, h3, h4, h5, h6⟩ := h
 have hq : val ((R.drop i).take (n + 1)) / D < 4294967296 := by rw [Nat.div_lt_iff_lt_mul hD0]; exact p2
 have r1 := Ea (R.drop i) (n + 1) (by rw [List.length_drop]; omega)
 have s1 := Ea (S.drop i) (n + 1) (by rw [List.length_drop]; omega)
 have e1 : val ((S.drop i).drop (n + 1)) = val ((R.drop i).drop (n + 1)) := by
  rw [List.drop_drop, List.drop_drop]
  exact Nz (fun j => by rw [Cy, Cy]; exact hfar _ (.inr (by omega)))
 have e2 : 4294967296 ^ (n + 1) * val ((R.drop i).drop (n + 1)) = 0 := by omega
 rw [e1, e2, Nat.add_zero] at s1
 have e3 : val (R.take i) = val (S.take i) := by
  rw [Co (l := R) (m := S) i (by omega) (by omega) (fun j hj => (hfar j (.inl hj)).symm)]
 have r2 := Ea R i (by omega)
 have s2 := Ea S i (by omega)
 have e4 : val (R.drop i) = val (S.drop i) + val (R.drop i) / D * D := by
  rw [s1, hs, p1, Nat.mul_comm]
  exact (Nat.mod_add_div _ _).symm
 have q1 := Cz (Q.set i (val ((R.drop i).take (n + 1)) / D)) i (by rw [List.length_set]; omega)
 rw [Bp (by omega)] at q1
 have e5 : (Q.set i (val ((R.drop i).take (n + 1)) / D)).drop (i + 1) = Q.drop (i + 1) := by
  rw [List.drop_set, if_pos (by omega)]
 rw [e5] at q1
 refine ⟨by omega, by rw [List.length_set]; exact h2, hws, h4.set hq, ?_, ?_⟩
 ·rw [q1, s2, ← e3, p1]
  rw [r2] at h5
  rw [Nat.pow_succ] at h5
  generalize val (R.drop i) / D = q at *
  generalize val (Q.drop (i + 1)) = V at *
  generalize 4294967296 ^ i = K at *
  rw [e4] at h5
  grind
 ·rw [s1, hs]; exact Nat.mod_lt _ hD0
theorem LongT.fin {A D n M : Nat} {R Q : List Nat} (h : LongT A D n M 0 R Q) (hD0 : 0 < D) : val Q = A / D ∧ val R = A % D := by
 obtain ⟨h1, h2, h3, h4, h5, h6⟩ := h
 rw [Nat.pow_zero, Nat.one_mul, List.drop_zero] at h5
 rw [List.drop_zero] at h6
 have e1 : A / D = val Q := by
  rw [← h5, Nat.add_mul_div_right _ _ hD0, Nat.div_eq_of_lt h6, Nat.zero_add]
 have e2 := Nat.mod_add_div A D
 rw [e1] at e2
 refine ⟨e1.symm, ?_⟩
 rw [Nat.mul_comm] at e2
 omega
/-! ### bit by bit -/
theorem Ai7 (x s : Nat) (h : x / 2 ^ s % 2 = 0) : x ||| 2 ^ s = x + 2 ^ s := by
 have h1 := Nat.mod_pow_succ (b := 2) (x := x) (k := s)
 rw [h, Nat.mul_zero] at h1
 have h2 := Nat.mod_add_div x (2 ^ (s + 1))
 rw [h1, Nat.add_zero] at h2
 have hl : x % 2 ^ s < 2 ^ s := Nat.mod_lt _ (Nat.two_pow_pos s)
 generalize x % 2 ^ s = l at *
 generalize x / 2 ^ (s + 1) = q at *
 have hp : 2 ^ (s + 1) = 2 * 2 ^ s := by rw [Nat.pow_succ, Nat.mul_comm]
 have e1 : x = 2 ^ (s + 1) * q ||| l := by rw [← Nat.two_pow_add_eq_or_of_lt (by omega), Nat.add_comm]; exact h2.symm
 have e2 : 2 ^ s * 1 ||| l = 2 ^ s + l := by rw [← Nat.two_pow_add_eq_or_of_lt hl, Nat.mul_one]
 rw [Nat.mul_one] at e2
 have e3 : x ||| 2 ^ s = 2 ^ (s + 1) * q ||| (2 ^ s + l) := by rw [e1, Nat.or_assoc, Nat.or_comm l, e2]
 rw [e3, ← Nat.two_pow_add_eq_or_of_lt (by omega)]
 omega
theorem T6 {X v bit : Nat} (hv : 0 < v) (hb : bit < 2) :
  (v ≤ 2 * (X % v) + bit → (2 * X + bit) / v = 2 * (X / v) + 1 ∧ (2 * X + bit) % v = 2 * (X % v) + bit - v) ∧
  (2 * (X % v) + bit < v → (2 * X + bit) / v = 2 * (X / v) ∧ (2 * X + bit) % v = 2 * (X % v) + bit) := by
 have e := Nat.mod_add_div X v
 have hr := Nat.mod_lt X hv
 generalize X % v = r at *
 generalize X / v = q at *
 refine ⟨fun h => ?_, fun h => ?_⟩
 ·have e2 : 2 * X + bit = (2 * r + bit - v) + v * (2 * q + 1) := by
   have : v * (2 * q + 1) = 2 * (v * q) + v := by grind
   omega
  rw [e2, Nat.add_mul_div_left _ _ hv, Nat.add_mul_mod_self_left, Nat.div_eq_of_lt (by omega), Nat.mod_eq_of_lt (by omega)]
  omega
 ·have e2 : 2 * X + bit = (2 * r + bit) + v * (2 * q) := by
   have : v * (2 * q) = 2 * (v * q) := by grind
   omega
  rw [e2, Nat.add_mul_div_left _ _ hv, Nat.add_mul_mod_self_left, Nat.div_eq_of_lt h, Nat.mod_eq_of_lt h]
  omega
structure HalfT (a : List Nat) (v i : Nat) (Q : List Nat) (r : Nat) : Prop where
 len : Q.length = a.length
 ws : Ws Q
 sum : val Q = 2 ^ i * (val a / 2 ^ i / v)
 rest : r = val a / 2 ^ i % v
theorem HalfT.start {a : List Nat} (ha : Ws a) (v : Nat) : HalfT a v (32 * a.length) (List.replicate a.length 0) 0 := by
 have h := Ed ha
 rw [Ji] at h
 refine ⟨List.length_replicate, Ws.zeros _, ?_, ?_⟩
 ·rw [Gi, Nat.div_eq_of_lt h, Nat.zero_div, Nat.mul_zero]
 ·rw [Nat.div_eq_of_lt h, Nat.zero_mod]
theorem Uu {a : List Nat} (ha : Ws a) (j s : Nat) (hj : j ≤ a.length) (hs : s < 32) : val a / 2 ^ (32 * j + s) = 2 * (val a / 2 ^ (32 * j + s + 1)) + a.getD j 0 / 2 ^ s % 2 := by
 have h := M7 ha j s hj hs
 rw [← h, Nat.pow_succ, ← Nat.div_div_eq_div_mul]
 omega
theorem HalfT.down {a : List Nat} {v j s : Nat} {Q : List Nat} {r : Nat} (h : HalfT a v (32 * j + s + 1) Q r) (ha : Ws a) (hv : 0 < v) (hj : j < a.length) (hs : s < 32) (hlt : 2 * r + a.getD j 0 / 2 ^ s % 2 < v) :
  HalfT a v (32 * j + s) Q (2 * r + a.getD j 0 / 2 ^ s % 2) := by
 obtain ⟨h1, h2, h3, h4⟩ := h
 have e := Uu ha j s (by omega) hs
 have hb : a.getD j 0 / 2 ^ s % 2 < 2 := Nat.mod_lt _ (by omega)
 rw [h4] at hlt
 obtain ⟨g1, g2⟩ := (T6 (X := val a / 2 ^ (32 * j + s + 1)) hv hb).2 hlt
 refine ⟨h1, h2, ?_, ?_⟩
 ·rw [h3, e, g1, Nat.pow_succ]; grind
 ·rw [e, g2, h4]
theorem HalfT.up {a : List Nat} {v j s : Nat} {Q : List Nat} {r : Nat} (h : HalfT a v (32 * j + s + 1) Q r) (ha : Ws a) (hv : 0 < v) (hj : j < a.length) (hs : s < 32) (hle : v ≤ 2 * r + a.getD j 0 / 2 ^ s % 2) :
  Q.getD j 0 ||| 2 ^ s < 4294967296 ∧ HalfT a v (32 * j + s) (Q.set j (Q.getD j 0 ||| 2 ^ s)) (2 * r + a.getD j 0 / 2 ^ s % 2 - v) := by
 obtain ⟨h1, h2, h3, h4⟩ := h
 have e := Uu ha j s (by omega) hs
 have hb : a.getD j 0 / 2 ^ s % 2 < 2 := Nat.mod_lt _ (by omega)
 rw [h4] at hle
 obtain ⟨g1, g2⟩ := (T6 (X := val a / 2 ^ (32 * j + s + 1)) hv hb).1 hle
 have hbit := M7 h2 j s (by omega) hs
 have hz : val Q / 2 ^ (32 * j + s) % 2 = 0 := by
  rw [h3, Nat.pow_succ, Nat.mul_assoc, Nat.mul_div_cancel_left _ (Nat.two_pow_pos _)]
  omega
 rw [hz] at hbit
 have hor := Ai7 _ s hbit.symm
 have hlt : Q.getD j 0 ||| 2 ^ s < 4294967296 := Nat.or_lt_two_pow (n := 32) (h2.getD j) (Nat.pow_lt_pow_right (by omega) hs)
 refine ⟨hlt, by rw [List.length_set]; exact h1, h2.set hlt, ?_, ?_⟩
 ·have q1 := Ea Q j (by omega)
  have q2 := Cz Q j (by omega)
  have s1 := Ea (Q.set j (Q.getD j 0 ||| 2 ^ s)) j (by rw [List.length_set]; omega)
  have s2 := Cz (Q.set j (Q.getD j 0 ||| 2 ^ s)) j (by rw [List.length_set]; omega)
  have e7 : (Q.set j (Q.getD j 0 ||| 2 ^ s)).drop (j + 1) = Q.drop (j + 1) := by rw [List.drop_set, if_pos (by omega)]
  rw [Bp (by omega), e7] at s2
  rw [Co (l := Q.set j _) (m := Q) j (by rw [List.length_set]; omega) (by omega) (fun k hk => Ao (by omega))] at s1
  have e5 : val (Q.set j (Q.getD j 0 ||| 2 ^ s)) = val Q + 2 ^ (32 * j + s) := by
   rw [s1, s2, q1, q2, hor, Nat.pow_add, Ji]; grind
  rw [e5, h3, e, g1, Nat.pow_succ]; grind
 ·rw [e, g2, h4]
theorem HalfT.fin {a : List Nat} {v : Nat} {Q : List Nat} {r : Nat} (h : HalfT a v 0 Q r) : val Q = val a / v ∧ r = val a % v := by
 obtain ⟨h1, h2, h3, h4⟩ := h
 rw [Nat.pow_zero, Nat.div_one] at h3 h4
 exact ⟨by omega, h4⟩

open Go.RowKit
def Yv (hi lo y : Nat) : Nat := if y ≤ hi then 4294967295 else (hi * 4294967296 + lo) / y
theorem Aa0 (hi lo y : Nat) (w : World) (hl : lo < 4294967296) (hy : y < 4294967296) :
  Cp 396 #[.int .u32 hi, .int .u32 lo, .int .u32 y] w fun e w' => e = .returned (.int .u32 (Yv hi lo y : Nat)) ∧ ∃ j, w' = w.drewN j := by
 unfold Yv
 by_cases h : y ≤ hi
 ·rw [if_pos h]
  have y1 : (y : Int) ≤ (hi : Int) := by omega
  clear hl hy h
  go_enter Tryz.func396, Tryz.ntmps396
  go_wp2
  go_ret
  exact ⟨rfl, 0, rfl⟩
 ·rw [if_neg h]
  have C1 := Lh (fun W => P6 hi lo y W (by omega) hl hy)
  have y1 : ¬ (y : Int) ≤ (hi : Int) := by omega
  obtain ⟨q, hq⟩ : ∃ q, (hi * 4294967296 + lo) / y = q := ⟨_, rfl⟩
  obtain ⟨r, hr⟩ : ∃ r, (hi * 4294967296 + lo) % y = r := ⟨_, rfl⟩
  rw [hq, hr] at C1
  rw [hq]
  clear hl hy h hq hr
  go_enter Tryz.func396, Tryz.ntmps396
  go_wp2_with fail
  refine Dm (C1.out _) fun j => ?_
  go_wp2
  go_ret
  exact ⟨rfl, j, rfl⟩

open Go.RowKit
def Aef (g : Nat) (R : List Nat) (o : Nat) (b : List Nat) (x : Nat) (w : World) (e : Ending) (w' : World) : Prop :=
 ∃ S q, e = .returned (.int .u32 (q : Nat)) ∧ Row w' g S ∧ TakeT R o b x b.length S q ∧ Only g w w'
theorem Sd (g o n c : Nat) (R : List Nat) (A : Option Addr) (m d : Nat) (b : List Nat) (x B : Nat) (w : World) (hR : Row w g R) (hRw : Ws R) (ho : o + n ≤ R.length) (hmn : m ≤ n) (hbl : b.length = m) (hm0 : 0 < m)
  (hB : RW w B A b) (hgB : B ≤ g) (hx : x < 4294967296) (hm : R.length ≤ 35184372088832) :
  Cp 397 #[.slice (some ⟨g, o, none⟩) n c, .slice A m d, .int .u32 x] w (Aef g R o b x w) := by
 obtain ⟨a, p, rfl, hab, hc⟩ := hB.2 (by omega)
 have HBW := Lh hB.1
 have HRW := Lh hRw
 have HBL := Lh hbl
 have HC := Lh hc
 have HX := Lh hx
 have HR := Lh hR
 have hm1 : (m : Int) ≤ (n : Int) := by omega
 have hn1 : (n : Int) ≤ 35184372088832 := by omega
 have HO := Lh ho
 have hag : a < g := by omega
 have h0' : (0 : Int) ≤ (x : Int) := by omega
 clear hR hRw ho hmn hbl hB hgB hx hm hc hm0
 go_enter Tryz.func397, Tryz.ntmps397
 go_wp2
 go_loopw [14, 7] (fun i v wr => ∃ (k : Nat) (S : List Nat) (q : Nat), i = .int .i64 k ∧ v = .int .u64 (q : Nat) ∧ k ≤ m ∧ Hid (Row wr g S) ∧ Hid (TakeT R o b x k S q) ∧ Only g w wr) (fun i _ _ => m - (intOf i).toNat)
 case atStart => exact ⟨0, R, 0, rfl, rfl, Nat.zero_le _, HR, Lh (TakeT.start o b x HRW.out), Only.refl _ _⟩
 case round =>
  obtain ⟨k, S, q, rfl, rfl, hk, HS, HT, hbw⟩ := hrel
  by_cases hlt : k < m
  ·have hkb : k < b.length := by rw [HBL.out]; exact hlt
   have hok : o + k < R.length := by have := HO.out; omega
   obtain ⟨e1, hnext⟩ := HT.out.next HRW.out HBW.out HX.out hok
   have hS := HS.out.cell (o + k) (by rw [HT.out.len]; exact hok)
   have hfz := HS.out.frozen (o + k)
   have hcl := HC.out k _ (getD_some hkb)
   rw [← hbw.below.cell (p := ⟨a, p + k, none⟩) hag] at hcl
   obtain ⟨l1, l2⟩ := Zw (k := k) HBW.out HX.out HT.out.low
   have hset := HS.out.set (o + k) (Rr (R.getD (o + k) 0) (I7 b x k q))
   have HE := Lh (show I7 b x k q = q + b.getD k 0 * x from rfl)
   have u1 := HBW.out.getD k
   have r1 := HRW.out.getD (o + k)
   have q1 := HT.out.low
   rw [e1] at hS
   obtain ⟨t, ht⟩ : ∃ t, I7 b x k q = t := ⟨_, rfl⟩
   obtain ⟨u, hu⟩ : ∃ u, b.getD k 0 = u := ⟨_, rfl⟩
   obtain ⟨r, hr⟩ : ∃ r, R.getD (o + k) 0 = r := ⟨_, rfl⟩
   rw [ht, hu] at HE
   rw [ht] at l2
   rw [hr, ht] at hnext hset
   rw [hu] at hcl l1 u1
   rw [hr] at hS r1
   have low := Aaf r t l2
   have C1 := Lh (fun W => show Cp 392 #[.int .u32 (r : Nat), .int .u32 ((t : Int) % 4294967296), .int .u32 0] W fun e w' => e = .returned (.tuple #[.int .u32 (Rr r t : Nat), .int .u32 (Sb r t : Nat)]) ∧ W = w' from by
    have := Pk r (t % 4294967296) 0 W r1 (by omega) (by omega)
    rw [show ((t % 4294967296 : Nat) : Int) = (t : Int) % 4294967296 by omega] at this
    exact this)
   obtain ⟨W', hW'⟩ : ∃ W', Rr r t = W' := ⟨_, rfl⟩
   obtain ⟨B', hB'⟩ : ∃ B', Sb r t = B' := ⟨_, rfl⟩
   rw [hW', hB'] at C1 hnext
   rw [hW'] at hset
   rw [hB'] at low
   have hB1 : B' ≤ 1 := by rw [← hB']; unfold Sb; split <;> omega
   have HNX := Lh hnext
   have k1 : IntKind.u64.wrap (u : Int) = (u : Int) := IntWalk.u64_in _ (by omega)
   have k2 : IntKind.u64.wrap (x : Int) = (x : Int) := IntWalk.u64_in _ (by have := HX.out; omega)
   have k4 : IntKind.u64.wrap ((u : Int) * (x : Int)) = (u : Int) * (x : Int) := IntWalk.u64_in _ (by
    have : ((u * x : Nat) : Int) = (u : Int) * (x : Int) := Int.natCast_mul u x
    omega)
   have k6 : IntKind.u64.wrap ((q : Int) + (u : Int) * (x : Int)) = (t : Int) := by
    have : ((u * x : Nat) : Int) = (u : Int) * (x : Int) := Int.natCast_mul u x
    have := HE.out
    rw [IntWalk.u64_in _ (by omega)]
    omega
   obtain ⟨T, hT⟩ : ∃ T, t / 4294967296 + B' = T := ⟨_, rfl⟩
   have k7 : IntKind.u64.wrap (B' : Int) = (B' : Int) := IntWalk.u64_in _ (by omega)
   have k8 : IntKind.u64.wrap ((t : Int) / 4294967296 + (B' : Int)) = (T : Int) := by rw [IntWalk.u64_in _ (by omega)]; omega
   rw [hT] at HNX
   have HSET := Lh hset
   clear e1 hnext l1 l2 u1 r1 q1 ht hu hr hkb hok hset low hW' hB' hB1 hT HE
   go_wp2_with (go_at_call 392; refine (C1.out _).mono ?_; rintro e w' ⟨rfl, rfl⟩)
   go_roundw
   case rel => exact ⟨k + 1, _, T, by go_num, rfl, by omega, HSET, HNX, hbw.setCell _⟩
   case measure => simp [intOf]; omega
  ·have HZ := Lh (show k = b.length by rw [HBL.out]; omega)
   have q1 := HT.out.low
   have k1 : IntKind.u32.wrap (q : Int) = (q : Int) := IntWalk.u32_in _ (by omega)
   have HT2 := Lh (HZ.out ▸ HT.out : TakeT R o b x b.length S q)
   clear q1
   go_wp2
   go_ret
   exact ⟨S, q, rfl, HS.out, HT2.out, hbw⟩
theorem W6 {P : Program} {f : FuncId} {args : Array Value} {w : World} {n : Nat} {v : Value}
  (h : Calls P f args (w.drewN n) fun e w' => e = .returned v ∧ ∃ j, w' = (w.drewN n).drewN j) : Calls P f args (w.drewN n) fun e w'' => e = .returned v ∧ ∃ m, w'' = w.drewN m :=
 h.mono fun _ _ ⟨he, j, hj⟩ => ⟨he, n + j, by rw [hj, World.drewN_drewN]⟩
def Tv (g : Nat) (R : List Nat) (o : Nat) (b : List Nat) (w : World) (e : Ending) (w' : World) : Prop :=
 ∃ S, e = .returned (.int .u32 ((val ((R.drop o).take (b.length + 1)) / val b : Nat) : Int)) ∧ Row w' g S ∧ S.length = R.length ∧ Ws S ∧ (∀ j, j < o ∨ o + (b.length + 1) ≤ j → S.getD j 0 = R.getD j 0) ∧
  val ((S.drop o).take (b.length + 1)) = val ((R.drop o).take (b.length + 1)) % val b ∧ Only g w w'
theorem X5 {R : List Nat} {o N : Nat} {b : List Nat} (hR : Ws R) (hb : Ws b) (hN : b.length = N + 1) (ho : o + b.length < R.length) (hb0 : 0 < val b) (htop : 0 < b.getD N 0)
  (hP : val ((R.drop o).take (b.length + 1)) < 4294967296 * val b) :
  val ((R.drop o).take (b.length + 1)) / val b ≤ Yv (R.getD (o + (N + 1)) 0) (R.getD (o + N) 0) (b.getD N 0) ∧ Yv (R.getD (o + (N + 1)) 0) (R.getD (o + N) 0) (b.getD N 0) < 4294967296 := by
 have hlo := hR.getD (o + N)
 have hy := hb.getD N
 refine ⟨?_, ?_⟩
 ·unfold Yv
  split
  ·have : val ((R.drop o).take (b.length + 1)) / val b < 4294967296 := by rw [Nat.div_lt_iff_lt_mul hb0]; exact hP
   omega
  ·rw [hN]
   refine Aal (p' := val ((R.drop o).take N)) (d' := val (b.take N)) (K := 4294967296 ^ N) ?_ ?_ ?_ htop
   ·rw [Ax R o (N + 1) (by omega), Ax R o N (by omega), Nat.pow_succ]
    grind
   ·have := Ed ((hR.drop o).take N)
    rwa [List.length_take, List.length_drop, Nat.min_eq_left (by omega)] at this
   ·have := Bg b N (by omega)
    rw [List.take_of_length_le (by omega)] at this
    rw [this]
 ·unfold Yv
  split
  ·omega
  ·next h =>
   rw [Nat.div_lt_iff_lt_mul htop]
   have : (R.getD (o + (N + 1)) 0 + 1) * 4294967296 ≤ b.getD N 0 * 4294967296 := Nat.mul_le_mul_right _ (by omega)
   omega
theorem Agg (g o n c : Nat) (R : List Nat) (A : Option Addr) (N m d : Nat) (b : List Nat) (B : Nat) (w : World) (hR : Row w g R) (hRw : Ws R) (hn : n = N + 2) (hmN : m = N + 1) (ho : o + n ≤ R.length) (hbl : b.length = N + 1)
  (hB : RW w B A b) (hgB : B ≤ g) (hm : R.length ≤ 35184372088832) (hb0 : 0 < val b) (htop : 0 < b.getD N 0) (hP : val ((R.drop o).take (b.length + 1)) < 4294967296 * val b) :
  Cp 389 #[.slice (some ⟨g, o, none⟩) n c, .slice A m d] w (Tv g R o b w) := by
 subst hn
 subst hmN
 obtain ⟨a, p, rfl, hab, hc⟩ := hB.2 (by omega)
 obtain ⟨gh1, gh2⟩ := X5 hRw hB.1 hbl (by omega) hb0 htop hP
 have d1 := hc N _ (getD_some (by omega))
 have d2 := hR.cell (o + (N + 1)) (by omega)
 have d3 := hR.cell (o + N) (by omega)
 have l1 := hRw.getD (o + (N + 1))
 have l2 := hRw.getD (o + N)
 have l3 := hB.1.getD N
 have C1 := Lh (fun W => Aa0 (R.getD (o + (N + 1)) 0) (R.getD (o + N) 0) (b.getD N 0) W l2 l3)
 obtain ⟨x, hx⟩ : ∃ x, Yv (R.getD (o + (N + 1)) 0) (R.getD (o + N) 0) (b.getD N 0) = x := ⟨_, rfl⟩
 rw [hx] at C1 gh1 gh2
 obtain ⟨u1, hu1⟩ : ∃ u, R.getD (o + (N + 1)) 0 = u := ⟨_, rfl⟩
 obtain ⟨u2, hu2⟩ : ∃ u, R.getD (o + N) 0 = u := ⟨_, rfl⟩
 obtain ⟨u3, hu3⟩ : ∃ u, b.getD N 0 = u := ⟨_, rfl⟩
 rw [hu1, hu2, hu3] at C1
 rw [hu1] at d2 l1
 rw [hu2] at d3
 rw [hu3] at d1
 have C2 := Lh (fun j => Sd g o (N + 2) c R (some ⟨a, p, none⟩) (N + 1) d b x B (w.drewN j) (hR.drewN j) hRw ho (by omega) hbl (by omega) (hB.drewN j) hgB gh2 hm)
 have HRW := Lh hRw
 have HBL := Lh hbl
 have HB := Lh hB
 have HGB := Lh hgB
 have HO := Lh ho
 have HB0 := Lh hb0
 have HG := Lh gh1
 have HG2 := Lh gh2
 have HU1 := Lh hu1
 have HM := Lh hm
 have hN1 : (N : Int) + 2 ≤ 35184372088832 := by omega
 have hoN1 : (o : Int) + (N : Int) + 2 ≤ 35184372088832 := by omega
 have L1 := Lh l1
 clear hR hRw ho hbl hB hgB hm hb0 htop hP hc gh1 gh2 l1 l2 l3 hx hu1 hu2 hu3 hab
 go_enter Tryz.func389, Tryz.ntmps389
 go_wp2
 go_quiet ((go_at_call 396; exact W6 (C1.out _)))
 go_wp2_with fail
 refine (C2.out _).mono ?_
 rintro e w2 ⟨S, q, rfl, hrow, ht, hb2⟩
 have hbw2 : Only g w w2 := ((Only.refl _ _).drewN nq).trans hb2
 have hql := ht.low
 have hSl := ht.len
 obtain ⟨e1, hst⟩ := ht.step (by rw [HBL.out]; have := HO.out; omega) HRW.out HG2.out HG.out
 rw [HBL.out, HU1.out] at e1 hst
 have hcell := hrow.cell (o + (N + 1)) (by rw [hSl]; have := HO.out; omega)
 have hfz := hrow.frozen (o + (N + 1))
 rw [e1] at hcell
 have C3 := Lh (fun W => show Cp 392 #[.int .u32 (u1 : Nat), .int .u32 (q : Nat), .int .u32 0] W fun e w' => e = .returned (.tuple #[.int .u32 ((u1 + 4294967296 * 2 - q - 0) % 4294967296 : Nat), .int .u32 ((if u1 < q + 0 then 1 else 0 : Nat) : Int)]) ∧ W = w' from Pk u1 q 0 W L1.out hql (by omega))
 obtain ⟨W3, hW3⟩ : ∃ W3, (u1 + 4294967296 * 2 - q - 0) % 4294967296 = W3 := ⟨_, rfl⟩
 obtain ⟨B3, hB3⟩ : ∃ B3, (if u1 < q + 0 then 1 else 0) = B3 := ⟨_, rfl⟩
 rw [hW3, hB3] at C3 hst
 have HROW := Lh (hrow.set (o + (N + 1)) W3)
 have HST := Lh hst
 have HBW := Lh hbw2
 clear hrow ht hb2 hbw2 hql hSl e1 hst hW3 hB3 C1 C2
 go_wp2_with (go_at_call 392; refine (C3.out _).mono ?_; rintro e w' ⟨rfl, rfl⟩)
 go_loopw [6, 8] (fun ov bv wr => ∃ (of bl : Nat) (S : List Nat), ov = .int .u32 (of : Nat) ∧ bv = .int .u32 (bl : Nat) ∧ Hid (Row wr g S) ∧ Hid (StepT R o b S of bl) ∧ Only g w wr) (fun ov _ _ => (intOf ov).toNat)
 case atStart => exact ⟨x, B3, _, rfl, rfl, HROW, HST, HBW.out.setCell _⟩
 case round =>
  obtain ⟨of, bl, T, rfl, rfl, HR2, HT2, hbw⟩ := hrel
  have hbl : bl = 0 ∨ bl = 1 := by have := HT2.out.low; omega
  rcases hbl with h0 | h0
  ·have b0 : ((bl : Int) == 1) = false := by rw [h0]; rfl
   rw [h0] at HT2
   obtain ⟨f1, f2⟩ := HT2.out.fin HB0.out
   have HF1 := Lh f1
   have HF2 := Lh f2
   clear f1 f2 h0
   go_wp2
   go_ret
   exact ⟨T, congrArg (fun k : Nat => Ending.returned (.int .u32 (k : Int))) HF1.out, HR2.out, HT2.out.len, HT2.out.ws, HT2.out.far, HF2.out, hbw⟩
  ·have b0 : ((bl : Int) == 1) = true := by rw [h0]; rfl
   rw [h0] at HT2
   have HBL1 := Lh h0
   obtain ⟨m1, _⟩ := HT2.out.more HB0.out (by rw [HBL.out]; have := HO.out; omega)
   have hofl := HT2.out.word
   have hTl := HT2.out.len
   have C4 := Lh (O5 g o (N + 2) c T (some ⟨a, p, none⟩) (N + 1) d b 1 B wr HR2.out HT2.out.ws (by rw [hTl]; exact HO.out) (by omega) HBL.out (HB.out.below (hbw.below.mono HGB.out)) HGB.out (by omega) (by rw [hTl]; exact HM.out))
   obtain ⟨k, rfl⟩ : ∃ k, of = k + 1 := ⟨of - 1, by omega⟩
   have k1 : IntKind.u32.wrap (((k + 1 : Nat) : Int) - 1) = (k : Int) := by rw [IntWalk.u32_in _ (by omega)]; omega
   have HTL := Lh hTl
   have hkl : (k : Int) < 4294967296 := by omega
   clear m1 hofl hTl h0
   go_wp2_with fail
   refine C4.out.mono ?_
   rintro e w4 ⟨U, q4, rfl, hrow4, hadd, hb4⟩
   have hbw4 : Only g w w4 := hbw.trans hb4
   have hUl := hadd.len
   have hq4 := hadd.low
   obtain ⟨f1, f2, f3⟩ := HT2.out.back HB0.out (by rw [HBL.out]; have := HO.out; omega) hadd
   rw [HBL.out] at f1 f2 f3
   have hcell4 := hrow4.cell (o + (N + 1)) (by rw [hUl, HTL.out]; have := HO.out; omega)
   have hfz4 := hrow4.frozen (o + (N + 1))
   rw [f1] at hcell4
   have htl := HT2.out.ws.getD (o + (N + 1))
   obtain ⟨u4, hu4⟩ : ∃ u, T.getD (o + (N + 1)) 0 = u := ⟨_, rfl⟩
   rw [hu4] at hcell4 f2 f3 htl
   have C5 := Lh (fun W => show Cp 393 #[.int .u32 (u4 : Nat), .int .u32 (q4 : Nat), .int .u32 0] W fun e w' => e = .returned (.tuple #[.int .u32 ((u4 + q4 + 0) % 4294967296 : Nat), .int .u32 ((u4 + q4 + 0) / 4294967296 : Nat)]) ∧ W = w' from Abo u4 q4 0 W htl hq4 (by omega))
   obtain ⟨W4, hW4⟩ : ∃ W4, (u4 + q4 + 0) % 4294967296 = W4 := ⟨_, rfl⟩
   obtain ⟨c4, hc4⟩ : ∃ c4, (u4 + q4 + 0) / 4294967296 = c4 := ⟨_, rfl⟩
   rw [hW4, hc4] at C5 f3
   rw [hc4] at f2
   rw [Nat.add_sub_cancel] at f3
   have k2 : IntKind.u32.wrap ((bl : Int) - (c4 : Int)) = ((1 - c4 : Nat) : Int) := by rw [HBL1.out, IntWalk.u32_in _ (by omega)]; omega
   have HROW4 := Lh (hrow4.set (o + (N + 1)) W4)
   have HST4 := Lh f3
   have HBW4 := Lh hbw4
   clear hrow4 hadd hb4 hbw4 hUl hq4 f1 f2 f3 htl hu4 hW4 hc4 C4
   go_wp2_with (go_at_call 393; refine (C5.out _).mono ?_; rintro e w' ⟨rfl, rfl⟩)
   go_roundw
   case rel => exact ⟨k, 1 - c4, _, rfl, rfl, HROW4, HST4, HBW4.out.setCell _⟩
   case measure => simp [intOf]

open Go.RowKit
theorem Bl {fn : Func} {t u v : Tmp} (h : fn.results = #[.tmp t, .tmp u, .tmp v]) (tmps : Array Value) (P : Program) (w : World) :
  (results fn tmps).run P w = .ok (.tuple #[tmps.getD t undef, tmps.getD u undef, tmps.getD v undef]) w := by
 simp [results, h]
def DivT (Q R : List Nat) (t : Nat) (w : World) (e : Ending) (w' : World) : Prop :=
 ∃ A n c C m d, e = .returned (.tuple #[.slice A n c, .slice C m d, .int .i64 (t : Nat)]) ∧ (n = Q.length ∧ n ≤ c ∧ m = R.length ∧ m ≤ d ∧ RW w' w'.heap.size A Q ∧ RW w' w'.heap.size C R) ∧ Below w.heap.size w w'
def Vi (v u : Nat) : Bool := !(Am v || Am u) && !decide (u = 0)
def Lc (v u : Nat) : List Nat := if Vi v u = true then wds (v / u) else []
def Kv (v u : Nat) : List Nat := if Vi v u = true then wds (v % u) else []
def Hq (v u : Nat) : Nat := if (Am v || Am u) = true then 3 else if u = 0 then 4 else 0
theorem Rx {v u : Nat} (h : (Am v || Am u) = false) (hu : 0 < u) : Vi v u = true := by
 unfold Vi; rw [h, decide_eq_false (by omega)]; rfl
theorem DivT.ok {v u : Nat} {w w' : World} {A C : Option Addr} {n c m d : Nat} (h : (Am v || Am u) = false) (hu : 0 < u) (hn : n = (wds (v / u)).length) (hc : n ≤ c) (hm : m = (wds (v % u)).length) (hd : m ≤ d)
  (hA : RW w' w'.heap.size A (wds (v / u))) (hC : RW w' w'.heap.size C (wds (v % u))) (hb : Below w.heap.size w w') : DivT (Lc v u) (Kv v u) (Hq v u) w (.returned (.tuple #[.slice A n c, .slice C m d, .int .i64 0])) w' := by
 have e0 : Hq v u = 0 := by unfold Hq; rw [if_neg (by rw [h]; simp), if_neg (by omega)]
 unfold Lc Kv
 rw [e0, if_pos (Rx h hu), if_pos (Rx h hu)]
 exact ⟨A, n, c, C, m, d, rfl, ⟨hn, hc, hm, hd, hA, hC⟩, hb⟩
theorem DivT.long {v u : Nat} {w w' : World} (h : (Am v || Am u) = true) (hb : Below w.heap.size w w') : DivT (Lc v u) (Kv v u) (Hq v u) w (.returned (.tuple #[.slice none 0 0, .slice none 0 0, .int .i64 3])) w' := by
 have e0 : Hq v u = 3 := by unfold Hq; rw [if_pos h]
 have e1 : Vi v u = false := by unfold Vi; rw [h]; rfl
 unfold Lc Kv
 rw [e0, if_neg (by rw [e1]; simp), if_neg (by rw [e1]; simp)]
 exact ⟨none, 0, 0, none, 0, 0, rfl, ⟨rfl, Nat.le_refl _, rfl, Nat.le_refl _, RW.nil _ _ _, RW.nil _ _ _⟩, hb⟩
theorem DivT.zero {v u : Nat} {w w' : World} (h : (Am v || Am u) = false) (hu : u = 0) (hb : Below w.heap.size w w') : DivT (Lc v u) (Kv v u) (Hq v u) w (.returned (.tuple #[.slice none 0 0, .slice none 0 0, .int .i64 4])) w' := by
 have e0 : Hq v u = 4 := by unfold Hq; rw [if_neg (by rw [h]; simp), if_pos hu]
 have e1 : Vi v u = false := by unfold Vi; rw [decide_eq_true hu]; simp
 unfold Lc Kv
 rw [e0, if_neg (by rw [e1]; simp), if_neg (by rw [e1]; simp)]
 exact ⟨none, 0, 0, none, 0, 0, rfl, ⟨rfl, Nat.le_refl _, rfl, Nat.le_refl _, RW.nil _ _ _, RW.nil _ _ _⟩, hb⟩
open Go.RowKit
theorem Ajq (W : World) : RW (W.alloc (.cells #[.int .u32 1] 156)) (W.alloc (.cells #[.int .u32 1] 156)).heap.size (some ⟨W.heap.size, 0, none⟩) [1] := (Zy W 1 (by omega)).more (by simp)
theorem Aek (A : Option Addr) (n c : Nat) (l : List Nat) (W : World) (hn : l.length = n) (hm : n ≤ 4096) (h : RW W W.heap.size A l) :
  Cp 264 #[.slice A n c, .slice (some ⟨W.heap.size, 0, none⟩) 1 1] (W.alloc (.cells #[.int .u32 1] 156)) (SlPost (wds (val l + 1)) (W.alloc (.cells #[.int .u32 1] 156))) := by
 have g := Ajq W
 have h2 : RW (W.alloc (.cells #[.int .u32 1] 156)) (W.alloc (.cells #[.int .u32 1] 156)).heap.size A l := h.step ((Below.refl _ _).alloc (Nat.le_refl _) _)
 generalize W.alloc (.cells #[.int .u32 1] 156) = W' at *
 exact E1 A (some ⟨W.heap.size, 0, none⟩) n c 1 1 l [1] W' hn (by omega) h2 rfl (by omega) g
theorem Aju (y s : Nat) (hy : y < 4294967296) (hs : s < 32) : bits BinOp.or IntKind.u32 (y : Int) (2 ^ s % 4294967296) = ((y ||| 2 ^ s : Nat) : Int) := by
 have h : 2 ^ s < 4294967296 := Nat.pow_lt_pow_right (n := 32) (by omega) hs
 rw [← Qu y (2 ^ s) hy h, show ((2 : Int) ^ s) = ((2 ^ s : Nat) : Int) by rw [Int.natCast_pow]; rfl]
 generalize 2 ^ s = P at *
 rw [show (P : Int) % 4294967296 = (P : Int) by omega]
theorem Wb (A C : Option Addr) (n c m d : Nat) (a b : List Nat) (w : World) (hn : a.length = n) (hm : n ≤ 1024) (h : RW w w.heap.size A a)
  (gn : b.length = m) (gm : m ≤ 1024) (g : RW w w.heap.size C b) (hnb : nrm b = b) (hb0 : 0 < val b) :
  Cp 316 #[.slice A n c, .slice C m d] w (fun e w' => ∃ A2 n2 c2 C2 m2 d2, e = .returned (.tuple #[.slice A2 n2 c2, .slice C2 m2 d2]) ∧ (n2 = (wds (val a / val b)).length ∧ n2 ≤ c2 ∧ m2 = (wds (val a % val b)).length ∧ m2 ≤ d2 ∧ RW w' w'.heap.size A2 (wds (val a / val b)) ∧ RW w' w'.heap.size C2 (wds (val a % val b))) ∧ Below w.heap.size w w') := by
 have hmk := run_make_row' (P := Tryz.prog) 180 156 (.int .u32 0) 4 Tryz.underlying180 Ei rfl .i64 .i64 n (by omega) (by omega) w
 have HROW := Lh (Row.made w n)
 have HBL := Lh (show Below w.heap.size w (w.alloc (.cells (madeCells #[.int .u32 0] n) 156)) from (Below.refl _ _).alloc (Nat.le_refl _) _)
 have HA := Lh h
 have HB := Lh g
 have HN := Lh hn
 have HM := Lh gn
 have HB0 := Lh hb0
 have HNB := Lh hnb
 have HST := Lh (show HalfT a (val b) (32 * n) (List.replicate n 0) 0 by rw [← hn]; exact HalfT.start h.1 _)
 have hn1 : (n : Int) ≤ 1024 := by omega
 have hm1 : (m : Int) ≤ 1024 := by omega
 have hbw : b = wds (val b) := by rw [← Be g.1, hnb]
 have HBW := Lh (show (wds (val b)).length ≤ 1024 by rw [← hbw, gn]; exact gm)
 clear h g hn gn hb0 hnb hm gm hbw
 go_enter Tryz.func316, Tryz.ntmps316
 go_wp2
 clear hmk
 go_loopw [7, 8] (fun v i wr => ∃ (k : Nat) (Q : List Nat) (r : Nat), i = .int .i64 ((k : Int) - 1) ∧ k ≤ 32 * n ∧ Hid (Sl wr wr.heap.size v (wds r)) ∧ Hid (Row wr w.heap.size Q) ∧ Hid (HalfT a (val b) k Q r) ∧ Below w.heap.size w wr) (fun _ i _ => (intOf i + 1).toNat)
 case atStart => exact ⟨32 * n, _, 0, by rw [Int.natCast_mul]; rfl, Nat.le_refl _, Lh (Sl.nil _ _ _), HROW, HST, HBL.out⟩
 case round =>
  obtain ⟨k, Q, r, rfl, hk, HS, HR, HT, hbw⟩ := hrel
  obtain ⟨A0, c0, rfl, hc0, hr0⟩ := HS.out
  obtain ⟨L0, hL0⟩ : ∃ L, (wds r).length = L := ⟨_, rfl⟩
  rw [hL0] at hc0 ⊢
  have hQl : Q.length = n := by rw [HT.out.len, HN.out]
  by_cases h0 : k = 0
  ·subst h0
   obtain ⟨f1, f2⟩ := HT.out.fin
   have hlt := HR.out.lt
   have C1 := Lh ((Bs (some ⟨w.heap.size, 0, none⟩) n n Q wr.heap.size wr hQl (Nat.le_refl _) (by omega) ((HR.out.rw0 HT.out.ws).more hlt)).mono (fun e w' x => SlPost.of HT.out.ws.nrm x))
   rw [Be HT.out.ws, f1] at C1
   rw [f2] at hr0 hL0
   have HR0 := Lh hr0
   have HC0 := Lh hc0
   have HL0 := Lh hL0
   clear f1 f2 hlt hr0 hc0 hL0 hQl
   go_wp2_with fail
   refine C1.out.mono ?_
   rintro e w2 ⟨v2, rfl, ⟨A2, c2, rfl, hc2, r2⟩, b2⟩
   have H2 := Lh r2
   have H3 := Lh hc2
   have H4 := Lh (HR0.out.step b2)
   have H5 := Lh (Aa hbw b2)
   clear r2 hc2 b2 C1
   go_wp2
   go_ret2
   exact ⟨A2, _, c2, A0, L0, c0, rfl, ⟨rfl, H3.out, HL0.out.symm, HC0.out, H2.out, H4.out⟩, H5.out⟩
  ·obtain ⟨I, rfl⟩ : ∃ I, k = I + 1 := ⟨k - 1, by omega⟩
   rw [show (((I + 1 : Nat) : Int) - 1) = (I : Int) by omega]
   obtain ⟨j, s, hjs, hs⟩ : ∃ j s, I = 32 * j + s ∧ s < 32 := ⟨I / 32, I % 32, by omega, by omega⟩
   have hjn : j < n := by omega
   have hja : j < a.length := by rw [HN.out]; exact hjn
   have hrv : r < val b := by have := HT.out.rest; rw [this]; exact Nat.mod_lt _ HB0.out
   have l0 : L0 ≤ 1024 := by have := U2 (Nat.le_of_lt hrv); have := HBW.out; omega
   rw [hjs] at HT
   have HRW := Lh (fun W (hb : Below w.heap.size w W) => HB.out.step hb)
   obtain ⟨ab, ao, rfl, hab, hca⟩ := HA.out.2 (by omega)
   have hcl := hca j _ (getD_some hja)
   have hxl := HA.out.1.getD j
   obtain ⟨x, hx⟩ : ∃ x, a.getD j 0 = x := ⟨_, rfl⟩
   obtain ⟨bt, hbt⟩ : ∃ bt, x / 2 ^ s % 2 = bt := ⟨_, rfl⟩
   have hb2 : bt < 2 := by omega
   have hba := Sz x s (by rw [← hx]; exact hxl)
   rw [hbt] at hba
   have hup := fun h => (HT.out.up HA.out.1 HB0.out hja hs h)
   have hdown := fun h => (HT.out.down HA.out.1 HB0.out hja hs h)
   rw [hx, hbt] at hup hdown
   rw [hx] at hcl
   obtain ⟨L1, hL1⟩ : ∃ L, (wds (2 * r)).length = L := ⟨_, rfl⟩
   have l1 : L1 ≤ 1025 := by have := Lv r r; rw [← Nat.two_mul, hL1] at this; omega
   obtain ⟨r2, hr2⟩ : ∃ r2, 2 * r + bt = r2 := ⟨_, rfl⟩
   obtain ⟨L2, hL2⟩ : ∃ L, (wds r2).length = L := ⟨_, rfl⟩
   have l2 : L2 ≤ 1026 := by
    have := Lv (2 * r) bt
    have h3 : (wds bt).length ≤ 1 := Bd (by omega)
    rw [hr2] at this; omega
   obtain ⟨L3, hL3⟩ : ∃ L, (wds (r2 - val b)).length = L := ⟨_, rfl⟩
   rw [hr2] at hup hdown
   have K1 := Lh (show Cp 317 #[.slice A0 L0 c0, .int .i64 1] wr (Kb (wds (2 * r)) L1 wr) from by
    have := Af7 A0 L0 c0 1 (wds r) wr hL0 hc0 (by omega) hr0 (by omega)
    rw [Ag, Nat.pow_one, Nat.mul_comm] at this
    exact this.mono fun _ _ y => y.told hL1)
   have K2 := Lh (fun W A2 c2 (r1 : RW W W.heap.size A2 (wds (2 * r))) => show bt = 1 → Cp 264 #[.slice A2 L1 c2, .slice (some ⟨W.heap.size, 0, none⟩) 1 1] (W.alloc (.cells #[.int .u32 1] 156)) (Kb (wds r2) L2 (W.alloc (.cells #[.int .u32 1] 156))) from fun hb1 => by
    have := Aek A2 L1 c2 (wds (2 * r)) W hL1 (by omega) r1
    rw [Ag, show 2 * r + 1 = r2 by omega] at this
    exact this.mono fun _ _ y => y.told hL2)
   have K3 := Lh (fun W A2 c2 (hb : Below w.heap.size w W) (r1 : RW W W.heap.size A2 (wds r2)) => Afi A2 C L2 c2 m d (wds r2) b W.heap.size W.heap.size W hL2 (by omega) r1 HM.out (by omega) (HRW.out W hb))
   have K4 := Lh (fun W A2 c2 (hb : Below w.heap.size w W) (r1 : RW W W.heap.size A2 (wds r2)) => show val b ≤ r2 → Cp 347 #[.slice A2 L2 c2, .slice C m d] W (Aiw (wds (r2 - val b)) L3 W) from fun hle => by
    have hmL : m ≤ L2 := by
     have h1 := U2 hle
     have h2 : b = wds (val b) := by rw [← Be HB.out.1, HNB.out]
     rw [← h2, HM.out, hL2] at h1
     exact h1
    have := Afl A2 C L2 c2 m d (wds r2) b W hL2 (by omega) r1 HM.out hmL (HRW.out W hb) (by rw [Ag]; exact hle)
    rw [Ag] at this
    exact this.mono fun _ _ y => y.toldN (Az _) hL3)
   have HL1 := Lh hL1
   have HR2E := Lh hr2
   have HL2 := Lh hL2
   have HL3 := Lh hL3
   obtain ⟨y, hy⟩ : ∃ y, Q.getD j 0 = y := ⟨_, rfl⟩
   have hcell := fun (W : World) (hb : Row W w.heap.size Q) => hb.cell j (by rw [hQl]; exact hjn)
   have hfz := fun (W : World) (hb : Row W w.heap.size Q) => hb.frozen j
   rw [hy] at hup hcell
   have hyl := HT.out.ws.getD j
   rw [hy] at hyl
   have HW := Lh (show bits BinOp.or IntKind.u32 (y : Int) (2 ^ s % 4294967296) = ((y ||| 2 ^ s : Nat) : Int) from Aju y s hyl hs)
   have HCELL := Lh hcell
   have HFZ := Lh hfz
   have HUP := Lh hup
   have HDOWN := Lh hdown
   have HCA := Lh (fun (W : World) (hb : Below w.heap.size w W) => (hb.cell (p := ⟨ab, ao + j, none⟩) hab).trans hcl)
   have e3 : (I : Int) / 32 = (j : Int) := by omega
   have e4 : (I : Int) % 32 = (s : Int) := by omega
   have hj1 : (j : Int) < (n : Int) := by omega
   have hs0 : (0 : Int) ≤ (s : Int) := by omega
   have hI0 : (0 : Int) ≤ (I : Int) := by omega
   have hI2 : (I : Int) ≤ 32768 := by omega
   have hI3 : I ≤ 32 * n := by omega
   have HS32 := Lh hs
   have HJS := Lh hjs
   have HBT := Lh hb2
   have HRLT := Lh HR.out.lt
   clear hk h0 hjs hjn hja hrv l0 l1 l2 hL0 hc0 hr0 hL1 hr2 hL2 hL3 hca hxl hx hbt hcell hfz hup hdown hQl hcl hab hy hyl
   cases hbit : decide (bt = 1)
   ·have hbe : bt = 0 := by have := of_decide_eq_false hbit; have := HBT.out; omega
    have hT : (bits BinOp.and IntKind.u32 ((x : Int) / 2 ^ s) 1 == 1) = false := by rw [hba, hbe]; rfl
    obtain rfl : 2 * r = r2 := by rw [← HR2E.out, hbe, Nat.add_zero]
    obtain rfl : L1 = L2 := by rw [← HL1.out, ← HL2.out]
    clear hba hbe hbit hs hb2 K2
    go_wp2_with fail
    refine K1.out.mono ?_
    rintro e w3 ⟨A3, c3, rfl, ⟨hc3, r3⟩, b1⟩
    have B3 := Aa hbw b1
    have hcx := HCA.out w3 B3
    have R3 := HR.out.below HRLT.out b1
    have D3 := K3.out w3 A3 c3 B3 r3
    have D4 := Lh (K4.out w3 A3 c3 B3 r3)
    clear K1 K3 K4 b1
    by_cases hle : val b ≤ (2 * r)
    ·have ho : (0 : Int) ≤ ord (wds (2 * r)) b := by
      rcases Nat.lt_or_ge (val b) (2 * r) with h1 | h1
      ·rw [Xe (by rw [Ag]; exact h1)]; omega
      ·rw [Ye (by rw [Ag]; omega)]; omega
     obtain ⟨o, hoe⟩ : ∃ o, ord (wds (2 * r)) b = o := ⟨_, rfl⟩
     rw [hoe] at ho D3
     have D5 := D4.out hle
     obtain ⟨u1, u2⟩ := HUP.out hle
     have HU2 := Lh u2
     clear hle hoe u1 u2 D4 r3
     go_wp2_with fail
     refine D3.mono ?_
     rintro e w' ⟨rfl, rfl⟩
     go_wp2_with fail
     refine D5.mono ?_
     rintro e w5 ⟨A5, c5, rfl, ⟨hc5, r5, q5⟩, b5⟩
     have B5 := Aa B3 b5
     have R5 := R3.below R3.lt b5
     have hcell := HCELL.out w5 R5
     have hfz := HFZ.out w5 R5
     have HR5 := Lh (R5.set j (y ||| 2 ^ s))
     have HS5 := Lh (r5.other (g := w.heap.size) (j := j) (fun ad h => Nat.lt_of_lt_of_le R3.lt (q5 ad h)) (.int .u32 ((y ||| 2 ^ s : Nat) : Int)))
     have HC5 := Lh hc5
     have HB5 := Lh (B5.setCell (p := ⟨w.heap.size, j, none⟩) (Nat.le_refl _) (.int .u32 ((y ||| 2 ^ s : Nat) : Int)))
     clear r5 q5 b5 R5 B5 hc5 D3 D5 B3 R3
     go_wp2
     rw [HW.out]
     refine ⟨⟨I, _, (2 * r) - val b, rfl, by omega, Lh ⟨A5, c5, by rw [HL3.out], by rw [HL3.out]; exact HC5.out, ?_⟩, HR5, by rw [HJS.out]; exact HU2, HB5.out⟩, ?_⟩
     ·have := HS5.out
      rw [show (w5.setCell ⟨w.heap.size, j, none⟩ (.int .u32 ((y ||| 2 ^ s : Nat) : Int))).heap.size = w5.heap.size by simp [World.setCell]]
      exact this
     ·simp [intOf]
    ·have ho : ¬ (0 : Int) ≤ ord (wds (2 * r)) b := by rw [W5 (by rw [Ag]; omega)]; omega
     obtain ⟨o, hoe⟩ : ∃ o, ord (wds (2 * r)) b = o := ⟨_, rfl⟩
     rw [hoe] at ho D3
     have HD2 := Lh (HDOWN.out (by omega))
     have HS3 := Lh r3
     have HC3 := Lh hc3
     clear hle hoe D4 r3 hc3
     go_wp2_with fail
     refine D3.mono ?_
     rintro e w' ⟨rfl, rfl⟩
     go_wp2
     go_roundw
     case rel => exact ⟨I, Q, (2 * r), by go_num, by omega, Lh ⟨A3, c3, by rw [HL2.out], by rw [HL2.out]; exact HC3.out, HS3.out⟩, Lh R3, by rw [HJS.out]; exact HD2, B3⟩
     case measure => simp [intOf]
   ·have hbe : bt = 1 := of_decide_eq_true hbit
    have hT : (bits BinOp.and IntKind.u32 ((x : Int) / 2 ^ s) 1 == 1) = true := by rw [hba, hbe]; rfl
    have K2b := Lh (fun W A2 c2 r1 => K2.out W A2 c2 r1 hbe)
    clear hba hbe hbit hs hb2 K2
    go_wp2_with fail
    refine K1.out.mono ?_
    rintro e w1 ⟨A1, c1, rfl, ⟨hc1, r1⟩, b1⟩
    have B1 := Aa hbw b1
    have hcx := HCA.out w1 B1
    have D2 := K2b.out w1 A1 c1 r1
    have R1 := HR.out.below HRLT.out b1
    have B2 : Below w.heap.size w (w1.alloc (.cells #[.int .u32 1] 156)) := B1.alloc B1.size _
    have R2 : Row (w1.alloc (.cells #[.int .u32 1] 156)) w.heap.size Q := R1.below R1.lt ((Below.refl _ _).alloc (Nat.le_refl _) _)
    have HB2 := Lh B2
    have HR2 := Lh R2
    clear r1 b1 B2 R2 R1 K1 K2b hc1
    go_wp2_with fail
    refine D2.mono ?_
    rintro e w3 ⟨A3, c3, rfl, ⟨hc3, r3⟩, b3⟩
    have B3 := Aa HB2.out b3
    have R3 := HR2.out.below HR2.out.lt b3
    have D3 := K3.out w3 A3 c3 B3 r3
    have D4 := Lh (K4.out w3 A3 c3 B3 r3)
    clear K3 K4 b3
    by_cases hle : val b ≤ r2
    ·have ho : (0 : Int) ≤ ord (wds r2) b := by
      rcases Nat.lt_or_ge (val b) r2 with h1 | h1
      ·rw [Xe (by rw [Ag]; exact h1)]; omega
      ·rw [Ye (by rw [Ag]; omega)]; omega
     obtain ⟨o, hoe⟩ : ∃ o, ord (wds r2) b = o := ⟨_, rfl⟩
     rw [hoe] at ho D3
     have D5 := D4.out hle
     obtain ⟨u1, u2⟩ := HUP.out hle
     have HU2 := Lh u2
     clear hle hoe u1 u2 D4 r3
     go_wp2_with fail
     refine D3.mono ?_
     rintro e w' ⟨rfl, rfl⟩
     go_wp2_with fail
     refine D5.mono ?_
     rintro e w5 ⟨A5, c5, rfl, ⟨hc5, r5, q5⟩, b5⟩
     have B5 := Aa B3 b5
     have R5 := R3.below R3.lt b5
     have hcell := HCELL.out w5 R5
     have hfz := HFZ.out w5 R5
     have HR5 := Lh (R5.set j (y ||| 2 ^ s))
     have HS5 := Lh (r5.other (g := w.heap.size) (j := j) (fun ad h => Nat.lt_of_lt_of_le R3.lt (q5 ad h)) (.int .u32 ((y ||| 2 ^ s : Nat) : Int)))
     have HC5 := Lh hc5
     have HB5 := Lh (B5.setCell (p := ⟨w.heap.size, j, none⟩) (Nat.le_refl _) (.int .u32 ((y ||| 2 ^ s : Nat) : Int)))
     clear r5 q5 b5 R5 B5 hc5 D3 D5 B3 R3
     go_wp2
     rw [HW.out]
     refine ⟨⟨I, _, r2 - val b, rfl, by omega, Lh ⟨A5, c5, by rw [HL3.out], by rw [HL3.out]; exact HC5.out, ?_⟩, HR5, by rw [HJS.out]; exact HU2, HB5.out⟩, ?_⟩
     ·have := HS5.out
      rw [show (w5.setCell ⟨w.heap.size, j, none⟩ (.int .u32 ((y ||| 2 ^ s : Nat) : Int))).heap.size = w5.heap.size by simp [World.setCell]]
      exact this
     ·simp [intOf]
    ·have ho : ¬ (0 : Int) ≤ ord (wds r2) b := by rw [W5 (by rw [Ag]; omega)]; omega
     obtain ⟨o, hoe⟩ : ∃ o, ord (wds r2) b = o := ⟨_, rfl⟩
     rw [hoe] at ho D3
     have HD2 := Lh (HDOWN.out (by omega))
     have HS3 := Lh r3
     have HC3 := Lh hc3
     clear hle hoe D4 r3 hc3
     go_wp2_with fail
     refine D3.mono ?_
     rintro e w' ⟨rfl, rfl⟩
     go_wp2
     go_roundw
     case rel => exact ⟨I, Q, r2, by go_num, by omega, Lh ⟨A3, c3, by rw [HL2.out], by rw [HL2.out]; exact HC3.out, HS3.out⟩, Lh R3, by rw [HJS.out]; exact HD2, B3⟩
     case measure => simp [intOf]

open Go.RowKit
theorem Aai {b : List Nat} {N : Nat} (hb : Ws b) (hN : b.length = N + 1) (hnb : nrm b = b) : 0 < b.getD N 0 ∧ 0 < Lib.bitLen (b.getD N 0) ∧ Lib.bitLen (b.getD N 0) ≤ 32 ∧ b.getD N 0 < 2 ^ Lib.bitLen (b.getD N 0) := by
 have h0 : nrm b ≠ [] := by rw [hnb]; intro e; rw [e] at hN; simp at hN
 have h1 := Af5 h0
 rw [hnb, hN, Nat.add_sub_cancel] at h1
 have h2 := hb.getD N
 have h3 := F4 _ h2
 obtain ⟨b1, b2, b3⟩ := Lib.bitLenAux_bounds 64 (b.getD N 0) (by omega) h1
 exact ⟨by omega, b1, h3, b3⟩
theorem ShlP.exact {R : List Nat} {o : Nat} {a : List Nat} {s N : Nat} {S : List Nat} (h : ShlP R o a s (N + 1) S) (hn : a.length = N + 1) (ht : a.getD N 0 < 2 ^ (32 - s)) : val ((S.drop o).take (N + 1)) = 2 ^ s * val a := by
 have h4 := h.sum
 have e : Er a s (N + 1) = 0 := by
  unfold Er
  rw [if_neg (by omega), Nat.add_sub_cancel]
  exact Nat.div_eq_of_lt ht
 rw [e, Nat.mul_zero, Nat.add_zero, Bk (l := a) (by omega)] at h4
 exact h4
theorem Aic {S : List Nat} {N : Nat} (hS : Ws S) (hl : S.length = N + 1) (hv : 4294967296 ^ N ≤ val S) : 0 < S.getD N 0 := by
 rcases Nat.eq_zero_or_pos (S.getD N 0) with h | h
 ·have e := Bg S N (by omega)
  rw [List.take_of_length_le (by omega), h, Nat.mul_zero, Nat.add_zero] at e
  have := Ed (hS.take N)
  rw [List.length_take, Nat.min_eq_left (by omega)] at this
  omega
 ·exact h
def Nh (n M va vb : Nat) (w : World) (e : Ending) (w' : World) : Prop :=
 ∃ S T g1 g2, e = .returned (.tuple #[.slice (some ⟨g2, 0, none⟩) M M, .slice (some ⟨g1, 0, none⟩) (n + 1) (n + 1)]) ∧ Row w' g2 S ∧ Row w' g1 T ∧ S.length = M ∧ T.length = n + 1 ∧ Ws S ∧ Ws T ∧ val S = va / vb ∧ val T = va % vb ∧ Below w.heap.size w w'
theorem Ny (A C : Option Addr) (n c m M N d : Nat) (a b : List Nat) (w : World) (hn : a.length = n) (hm : n ≤ 1024) (h : RW w w.heap.size A a)
  (gn : b.length = m) (gN : m = N + 1) (g : RW w w.heap.size C b) (hnb : nrm b = b) (hM : n + 1 = M + m) (hM0 : 0 < M) :
  Cp 368 #[.slice A n c, .slice C m d] w (Nh n M (val a) (val b) w) := by
 subst gN
 obtain ⟨t1, t2, t3, t4⟩ := Aai g.1 gn hnb
 have h0 : nrm b ≠ [] := by rw [hnb]; intro e; rw [e] at gn; simp at gn
 have hge := Nv h0
 rw [hnb, gn, Nat.add_sub_cancel] at hge
 obtain ⟨cb, coff, rfl, hcb, hcc⟩ := g.2 (by omega)
 have d1 := hcc N _ (getD_some (by omega))
 have htl := g.1.getD N
 obtain ⟨u, hu⟩ : ∃ u, b.getD N 0 = u := ⟨_, rfl⟩
 rw [hu] at d1 t1 t2 t3 t4 htl
 obtain ⟨L, hL⟩ : ∃ L, Lib.bitLen u = L := ⟨_, rfl⟩
 have C1 := Lh (fun W => show Cp 388 #[.int .u32 (u : Nat)] W fun e w' => e = .returned (.int .i64 (32 - (L : Int))) ∧ W = w' from by
  have := Tryz.bits_LeadingZeros32 (u : Int) W (by omega) (by omega)
  rw [Int.toNat_natCast, hL] at this; exact this.mono fun _ _ ⟨x, y⟩ => ⟨x, y.symm⟩)
 rw [hL] at t2 t3 t4
 obtain ⟨s, hs⟩ : ∃ s, 32 - L = s := ⟨_, rfl⟩
 have hs2 : 32 - (L : Int) = (s : Int) := by omega
 rw [hs2] at C1
 have hs32 : s < 32 := by omega
 have HT4 := Lh (show b.getD N 0 < 2 ^ (32 - s) by rw [hu, show 32 - s = L by omega]; exact t4)
 have hN1 : (N : Int) ≤ 1024 := by omega
 have hn1 : (n : Int) ≤ 1024 := by omega
 have hM1 : (1 : Int) ≤ (M : Int) := by omega
 have hM2 : (M : Int) ≤ 1024 := by omega
 have HA := Lh h
 have HB := Lh g
 have HGB := Lh (show (b.length = N + 1 ∧ a.length = n) from ⟨gn, hn⟩)
 have HGE := Lh hge
 have HM := Lh hM
 have HM0 := Lh hM0
 have hm1 := run_make_row' (P := Tryz.prog) 180 156 (.int .u32 0) 4 Tryz.underlying180 Ei rfl .i64 .i64 (N + 1) (by omega) (by omega) w
 rw [show ((N + 1 : Nat) : Int) = (N : Int) + 1 by omega] at hm1
 have hm2 := fun W => run_make_row' (P := Tryz.prog) 180 156 (.int .u32 0) 4 Tryz.underlying180 Ei rfl .i64 .i64 (n + 1) (by omega) (by omega) W
 rw [show ((n + 1 : Nat) : Int) = (n : Int) + 1 by omega] at hm2
 have hm3 := fun W => run_make_row' (P := Tryz.prog) 180 156 (.int .u32 0) 4 Tryz.underlying180 Ei rfl .i64 .i64 M (by omega) (by omega) W
 have HM2 := Lh hm2
 have HM3 := Lh hm3
 have hMe0 : IntKind.i64.wrap ((n : Int) - ((N : Int) + 1)) = (n : Int) - ((N : Int) + 1) := IntWalk.i64_in _ (by omega)
 have hMe : IntKind.i64.wrap (((n : Int) - ((N : Int) + 1)) + 1) = (M : Int) := by rw [IntWalk.i64_in _ (by omega)]; omega
 have hR1 := Row.made w (N + 1)
 have hB1 : Below w.heap.size w (w.alloc (.cells (madeCells #[.int .u32 0] (N + 1)) 156)) := (Below.refl _ _).alloc (Nat.le_refl _) _
 have hz1 : (w.alloc (.cells (madeCells #[.int .u32 0] (N + 1)) 156)).heap.size = w.heap.size + 1 := by simp
 obtain ⟨w1, hw1⟩ : ∃ w1, w.alloc (.cells (madeCells #[.int .u32 0] (N + 1)) 156) = w1 := ⟨_, rfl⟩
 rw [hw1] at hR1 hB1 hz1 hm1
 have C2 := Lh (Si w.heap.size 0 (N + 1) (N + 1) s (List.replicate (N + 1) 0) (some ⟨cb, coff, none⟩) (N + 1) d b w.heap.size w1 hR1 (Ws.zeros _) (by rw [List.length_replicate]; omega) gn (by omega) (by omega) (g.below hB1) (Nat.le_refl _) hs32)
 have HB1 := Lh hB1
 have HZ1 := Lh hz1
 clear t1 t2 t3 t4 hu hL hs hs2 htl hcc h g hn gn hge hM hM0 hnb h0 hm hm2 hm3 hR1 hB1 hz1 hw1
 go_enter Tryz.func368, Tryz.ntmps368
 go_wp2_with fail
 refine Sm (C1.out _) ?_
 go_wp2_with fail
 refine C2.out.mono ?_
 rintro e w2 ⟨rfl, D, hD, hRD, hbD⟩
 have hB2 : Below w.heap.size w w2 := HB1.out.trans hbD
 have hg0 := hRD.lt
 have hDl : D.length = N + 1 := by rw [hD.len, List.length_replicate]
 have hDv : val D = 2 ^ s * val b := by
  have := hD.exact HGB.out.1 HT4.out
  rw [List.drop_zero, List.take_of_length_le (by omega)] at this
  exact this
 have hDw := hD.ws
 have hm2 := HM2.out w2
 have hR2 := Row.made w2 (n + 1)
 have hB3 : Below w.heap.size w (w2.alloc (.cells (madeCells #[.int .u32 0] (n + 1)) 156)) := hB2.alloc hB2.size _
 have hB23 : Below w2.heap.size w2 (w2.alloc (.cells (madeCells #[.int .u32 0] (n + 1)) 156)) := (Below.refl _ _).alloc (Nat.le_refl _) _
 have C3 := Lh (Si w2.heap.size 0 (n + 1) (n + 1) s (List.replicate (n + 1) 0) A n c a w.heap.size _ hR2 (Ws.zeros _) (by rw [List.length_replicate]; omega) HGB.out.2 (by omega) (by omega) (HA.out.below hB3) hB2.size hs32)
 have HRD := Lh (hRD.below hg0 hB23)
 have HD := Lh (show D.length = N + 1 ∧ val D = 2 ^ s * val b ∧ Ws D from ⟨hDl, hDv, hDw⟩)
 have HB3 := Lh hB3
 have HG0 := Lh hg0
 clear hD hRD hbD hB2 hg0 hDl hDv hDw hR2 hB3 hB23 hm1 C1 C2
 go_wp2_with fail
 refine C3.out.mono ?_
 rintro e w4 ⟨rfl, R, hR, hRR, hbR⟩
 have hB4 : Below w.heap.size w w4 := HB3.out.trans (hbR.mono (Nat.le_of_lt HG0.out))
 have hg1 := hRR.lt
 have hRl : R.length = n + 1 := by rw [hR.len, List.length_replicate]
 have hRv : val R = 2 ^ s * val a := by
  have := hR.whole (by rw [HGB.out.2]; omega)
  rw [List.drop_zero, List.take_of_length_le (by omega)] at this
  exact this
 have hRw := hR.ws
 have hRD4 : Row w4 w.heap.size D := HRD.out.below HG0.out hbR
 have hm3 := HM3.out w4
 have hQ5 := Row.made w4 M
 have hB5 : Below w.heap.size w (w4.alloc (.cells (madeCells #[.int .u32 0] M) 156)) := hB4.alloc hB4.size _
 have hB45 : Below w4.heap.size w4 (w4.alloc (.cells (madeCells #[.int .u32 0] M) 156)) := (Below.refl _ _).alloc (Nat.le_refl _) _
 have HQ5 := Lh hQ5
 have HR5 := Lh (hRR.below hg1 hB45)
 have HD5 := Lh (hRD4.below (Nat.lt_trans HG0.out hg1) hB45)
 have HB5 := Lh hB5
 have HG1 := Lh hg1
 have hlong := LongT.start (va := val a) (vb := val b) (s := s) (la := n) (n := N + 1) (M := M) hRw (by rw [hRl]; exact HM.out) HM.out (by omega) (by have := Ed HA.out.1; rw [HGB.out.2] at this; exact this) (by rw [Nat.add_sub_cancel]; exact HGE.out) hRv
 have HLONG := Lh hlong
 have hDp : 0 < val b := Nat.lt_of_lt_of_le (Nat.pow_pos (by omega)) HGE.out
 have HDP := Lh (show 0 < 2 ^ s * val b ∧ 2 ^ s * val b < 4294967296 ^ (N + 1) ∧ 0 < D.getD N 0 by
  have h1 := Ed HD.out.2.2
  rw [HD.out.2.1, HD.out.1] at h1
  refine ⟨Nat.mul_pos (Nat.two_pow_pos s) hDp, h1, Aic HD.out.2.2 HD.out.1 ?_⟩
  rw [HD.out.2.1]
  exact Nat.le_trans HGE.out (Nat.le_mul_of_pos_left _ (Nat.two_pow_pos s)))
 clear hR hRR hbR hB4 hg1 hRl hRv hRw hRD4 hQ5 hB5 hB45 hlong hDp hm2 C3
 go_wp2
 clear hm3
 go_loopw [10] (fun i wr => ∃ (k : Nat) (R Q : List Nat), i = .int .i64 ((k : Int) - 1) ∧ k ≤ M ∧ Hid (Row wr w2.heap.size R) ∧ Hid (Row wr w4.heap.size Q) ∧ Hid (Row wr w.heap.size D) ∧ Hid (LongT (2 ^ s * val a) (2 ^ s * val b) (N + 1) M k R Q) ∧ Below w.heap.size w wr) (fun i _ => (intOf i + 1).toNat)
 case atStart => exact ⟨M, R, _, rfl, Nat.le_refl _, HR5, HQ5, HD5, HLONG, HB5.out⟩
 case round =>
  obtain ⟨k, R2, Q, rfl, hk, HR, HQ, HDD, HT, hbw⟩ := hrel
  have hRl := HT.out.lenR
  have hQl := HT.out.lenQ
  have hMn := HM.out
  by_cases h0 : k = 0
  ·subst h0
   obtain ⟨f1, f2⟩ := HT.out.fin HDP.out.1
   rw [Nat.mul_div_mul_left _ _ (Nat.two_pow_pos s)] at f1
   rw [Nat.mul_mod_mul_left] at f2
   have C1 := Lh (Ae2 w2.heap.size (n + 1) (n + 1) (n + 1) s R2 wr HR.out HT.out.wsR (by omega) (by omega) hs32)
   have HF1 := Lh f1
   have HF2 := Lh f2
   have HQW := Lh HT.out.wsQ
   have HL := Lh (show Q.length = M ∧ R2.length = n + 1 from ⟨hQl, by omega⟩)
   have HNE := Lh (show w4.heap.size ≠ w2.heap.size from Nat.ne_of_gt HG1.out)
   have HBG := Lh (Nat.le_of_lt (Nat.lt_of_lt_of_le HG0.out (Nat.le_refl _)))
   clear f1 f2 hRl hQl hMn
   go_wp2_with fail
   refine C1.out.mono ?_
   rintro e w5 ⟨rfl, S, hS, hRow, hO⟩
   have hv := hS.whole (by rw [HL.out.2]; exact Nat.le_refl _)
   have hSl := hS.len
   rw [List.drop_zero, List.take_of_length_le (by rw [hSl, HL.out.2]; exact Nat.le_refl _), HF2.out, Nat.mul_div_cancel_left _ (Nat.two_pow_pos s)] at hv
   have HFIN := Lh (show Nh n M (val a) (val b) w (.returned (.tuple #[.slice (some ⟨w4.heap.size, 0, none⟩) M M, .slice (some ⟨w2.heap.size, 0, none⟩) (n + 1) (n + 1)])) w5 from
    ⟨Q, S, w2.heap.size, w4.heap.size, rfl, HQ.out.only HNE.out hO, hRow, HL.out.1, by rw [hSl, HL.out.2], HQW.out, hS.ws, HF1.out, hv, hbw.trans (hO.below.mono HBG.out)⟩)
   clear hS hRow hO hv hSl C1
   go_wp2
   go_ret2
   exact HFIN.out
  ·obtain ⟨j, rfl⟩ : ∃ j, k = j + 1 := ⟨k - 1, by omega⟩
   rw [show (((j + 1 : Nat) : Int) - 1) = (j : Int) by omega]
   obtain ⟨p1, p2⟩ := HT.out.part (by omega) HDP.out.2.1
   have C1 := Lh (Agg w2.heap.size j (N + 2) (n + 1 - j) R2 (some ⟨w.heap.size, 0, none⟩) N (N + 1) (N + 1) D (w.heap.size + 1) wr HR.out HT.out.wsR rfl rfl (by omega) HD.out.1 (HDD.out.rw0 HD.out.2.2) HG0.out (by omega) (by rw [HD.out.2.1]; exact HDP.out.1) HDP.out.2.2 (by rw [HD.out.1, HD.out.2.1]; exact p2))
   have HNX := Lh (fun S h1 h2 h3 h4 => HT.out.next (S := S) (by omega) HDP.out.2.1 HDP.out.1 h1 h2 h3 h4)
   unfold Tv at C1
   rw [HD.out.1, HD.out.2.1] at C1
   obtain ⟨q, hq⟩ : ∃ q, val ((R2.drop j).take (N + 1 + 1)) / (2 ^ s * val b) = q := ⟨_, rfl⟩
   rw [hq] at C1 HNX
   have hcell := fun (W : World) (h : Row W w4.heap.size Q) => h.cell j (by omega)
   have hfz := fun (W : World) (h : Row W w4.heap.size Q) => h.frozen j
   have HCELL := Lh hcell
   have HFZ := Lh hfz
   have HNE := Lh (show w4.heap.size ≠ w2.heap.size ∧ w.heap.size ≠ w2.heap.size ∧ w2.heap.size ≠ w4.heap.size ∧ w.heap.size ≠ w4.heap.size from by
    have h1 := HG1.out
    have h2 := HG0.out
    omega)
   have HBG := Lh (show w.heap.size ≤ w2.heap.size ∧ w.heap.size ≤ w4.heap.size from by
    have h1 := HG1.out
    have h2 := HG0.out
    omega)
   have hj1 : (j : Int) < (M : Int) := by omega
   have hjn : (j : Int) + (N : Int) + 2 ≤ (n : Int) + 1 := by omega
   have hjn2 : j + (N + 2) ≤ n + 1 := by omega
   have hk2 : j + 1 ≤ M := hk
   clear hRl hQl hMn hk h0 p1 p2 hq hcell hfz
   go_wp2_with fail
   rw [show j + (N + 1) + 1 - j = N + 2 by omega]
   refine C1.out.mono ?_
   rintro e w5 ⟨S, rfl, hrow, hlen, hws, hfar, hval, hO⟩
   have rQ := HQ.out.only HNE.out.1 hO
   have rD := HDD.out.only HNE.out.2.1 hO
   have hcell := HCELL.out w5 rQ
   have hfz := HFZ.out w5 rQ
   have HTN := Lh (HNX.out S hlen hws hfar hval)
   have HQ2 := Lh (rQ.set j q)
   have HR2 := Lh (show Row (w5.setCell ⟨w4.heap.size, j, none⟩ (.int .u32 (q : Nat))) w2.heap.size S from (Below.heap_setCell w5 _ _ _ HNE.out.2.2.1).trans hrow)
   have HD2 := Lh (show Row (w5.setCell ⟨w4.heap.size, j, none⟩ (.int .u32 (q : Nat))) w.heap.size D from (Below.heap_setCell w5 _ _ _ HNE.out.2.2.2).trans rD)
   have HB2 := Lh ((hbw.trans (hO.below.mono HBG.out.1)).setCell (p := ⟨w4.heap.size, j, none⟩) HBG.out.2 (.int .u32 (q : Nat)))
   clear hrow hlen hws hfar hval hO rQ rD C1 HNX
   go_wp2
   go_roundw
   case rel => exact ⟨j, S, _, by go_num, by omega, HR2, HQ2, HD2, HTN, HB2.out⟩
   case measure => simp [intOf]
open Go.RowKit
theorem Agf (A C : Option Addr) (n c m d : Nat) (l k : List Nat) (w : World) (hn : l.length = n) (hc : n ≤ c) (hm : n ≤ 35184372088832) (h : RW w w.heap.size A l)
  (gn : k.length = m) (gc : m ≤ d) (gm : m ≤ 35184372088832) (g : RW w w.heap.size C k) (hl : (Am (val l) || Am (val k)) = true) :
  Cp 341 #[.slice A n c, .slice C m d] w (DivT (Lc (val l) (val k)) (Kv (val l) (val k)) (Hq (val l) (val k)) w) := by
 have c1 := Dw A C n c m d l k w hn hc hm h gn gc gm g
 have hp : Below w.heap.size w (Hi w (.slice A n c) (.slice C m d)) := (Below.refl _ _).alloc (Nat.le_refl _) _
 have HF := Lh (DivT.long (w := w) hl hp)
 rw [hl] at c1
 clear h g hn hc hm gn gc gm hl hp
 go_enter Tryz.func341, Tryz.ntmps341
 go_wp2_with fail
 refine c1.mono ?_
 rintro e w1 ⟨rfl, rfl⟩
 go_wp2
 (try simp only [Exit.inBlock, Exit.then])
 refine bodyPost_ret (Bl rfl _ _ _) rfl ?_
 exact HF.out
theorem Ae0 (A C : Option Addr) (n c m d : Nat) (l k : List Nat) (w : World) (hn : l.length = n) (hc : n ≤ c) (hm : n ≤ 35184372088832) (h : RW w w.heap.size A l)
  (gn : k.length = m) (gc : m ≤ d) (gm : m ≤ 35184372088832) (g : RW w w.heap.size C k) (hl : (Am (val l) || Am (val k)) = false) (hk : val k = 0) :
  Cp 341 #[.slice A n c, .slice C m d] w (DivT (Lc (val l) (val k)) (Kv (val l) (val k)) (Hq (val l) (val k)) w) := by
 have c1 := Dw A C n c m d l k w hn hc hm h gn gc gm g
 have hp : Below w.heap.size w (Hi w (.slice A n c) (.slice C m d)) := (Below.refl _ _).alloc (Nat.le_refl _) _
 have HF := Lh (DivT.zero (w := w) hl hk hp)
 rw [hl] at c1
 have c2 := Av A n c l w.heap.size _ hn hc hm (h.below hp)
 have c3 := Av C m d k w.heap.size _ gn gc gm (g.below hp)
 rw [Cb hk] at c3
 clear h g hn hc hm gn gc gm hl hp hk
 go_enter Tryz.func341, Tryz.ntmps341
 go_wp2_with fail
 refine c1.mono ?_
 rintro e w1 ⟨rfl, rfl⟩
 go_wp2_with fail
 refine c2.mono ?_
 rintro e w1 ⟨rfl, rfl⟩
 go_wp2_with fail
 refine c3.mono ?_
 rintro e w1 ⟨rfl, rfl⟩
 go_wp2
 (try simp only [Exit.inBlock, Exit.then])
 refine bodyPost_ret (Bl rfl _ _ _) rfl ?_
 exact HF.out
theorem Abz (A C : Option Addr) (n c m d : Nat) (l k : List Nat) (w : World) (hn : l.length = n) (hc : n ≤ c) (hm : n ≤ 35184372088832) (h : RW w w.heap.size A l)
  (gn : k.length = m) (gc : m ≤ d) (gm : m ≤ 35184372088832) (g : RW w w.heap.size C k) (hl : (Am (val l) || Am (val k)) = false) (hlt : (nrm l).length < (nrm k).length) :
  Cp 341 #[.slice A n c, .slice C m d] w (DivT (Lc (val l) (val k)) (Kv (val l) (val k)) (Hq (val l) (val k)) w) := by
 have c1 := Dw A C n c m d l k w hn hc hm h gn gc gm g
 have hp : Below w.heap.size w (Hi w (.slice A n c) (.slice C m d)) := (Below.refl _ _).alloc (Nat.le_refl _) _
 rw [hl] at c1
 have c2 := Av A n c l w.heap.size _ hn hc hm (h.below hp)
 have c3 := Av C m d k w.heap.size _ gn gc gm (g.below hp)
 obtain ⟨hl1, hl2⟩ : Am (val l) = false ∧ Am (val k) = false := by simpa using hl
 have n1 := Fd h.1 hl1
 have n2 := Fd g.1 hl2
 have hval := Ahc h.1 hlt
 have e1 : val l / val k = 0 := Nat.div_eq_of_lt hval
 have e2 : val l % val k = val l := Nat.mod_eq_of_lt hval
 obtain ⟨N, hN⟩ : ∃ N, (nrm l).length = N := ⟨_, rfl⟩
 obtain ⟨M, hM⟩ : ∃ M, (nrm k).length = M := ⟨_, rfl⟩
 rw [hN] at n1 c2 hlt
 rw [hM] at n2 c3 hlt
 obtain ⟨W, hW⟩ : ∃ W, Hi w (.slice A n c) (.slice C m d) = W := ⟨_, rfl⟩
 rw [hW] at c1 c2 c3 hp
 have HOK := Lh (fun (w' : World) A2 n2 c2 C2 m2 d2 h3 h4 h5 h6 h7 h8 h9 => DivT.ok (w := w) (w' := w') (A := A2) (C := C2) (n := n2) (c := c2) (m := m2) (d := d2) hl (by omega) h3 h4 h5 h6 h7 h8 h9)
 rw [e1, e2] at HOK
 have hND : (wds (val l)).length = N := by rw [← Be h.1]; exact hN
 have c4 := (Aj5 A N N (nrm l) N W hN (Nat.le_refl _) (by omega) ((h.nrm.below hp).more hp.size) (by rw [Ev]; exact hN))
 rw [Ev, Be h.1] at c4
 have HW := Lh hW
 have HP := Lh hp
 have HND := Lh hND
 have z0 : ((M : Int) == 0) = false := by simp; omega
 have z1 : (N : Int) < (M : Int) := by omega
 clear h g hn hc hm gn gc gm hl hp hl1 hl2 n1 n2 hval e1 e2 hN hM hW hND hlt
 go_enter Tryz.func341, Tryz.ntmps341
 go_wp2_with fail
 rw [show w.alloc (.cells #[.slice A n c, .slice C m d] 180) = W from HW.out]
 refine c1.mono ?_
 rintro e w1 ⟨rfl, rfl⟩
 go_wp2_with fail
 refine c2.mono ?_
 rintro e w1 ⟨rfl, rfl⟩
 go_wp2_with fail
 refine c3.mono ?_
 rintro e w1 ⟨rfl, rfl⟩
 go_wp2_with fail
 refine c4.mono ?_
 rintro e w2 ⟨A2, c2, rfl, ⟨hc2, r2⟩, b2⟩
 have HF := Lh (HOK.out w2 none 0 0 A2 N c2 rfl (Nat.le_refl _) HND.out.symm hc2 (RW.nil _ _ _) r2 (Aa HP.out b2))
 clear r2 hc2 b2
 go_wp2
 (try simp only [Exit.inBlock, Exit.then])
 refine bodyPost_ret (Bl rfl _ _ _) rfl ?_
 exact HF.out
theorem Af2 (A C : Option Addr) (n c m d : Nat) (l k : List Nat) (w : World) (hn : l.length = n) (hc : n ≤ c) (hm : n ≤ 35184372088832) (h : RW w w.heap.size A l)
  (gn : k.length = m) (gc : m ≤ d) (gm : m ≤ 35184372088832) (g : RW w w.heap.size C k) (hl : (Am (val l) || Am (val k)) = false) (hle : (nrm k).length ≤ (nrm l).length) (h1k : (nrm k).length = 1) :
  Cp 341 #[.slice A n c, .slice C m d] w (DivT (Lc (val l) (val k)) (Kv (val l) (val k)) (Hq (val l) (val k)) w) := by
 have c1 := Dw A C n c m d l k w hn hc hm h gn gc gm g
 have hp : Below w.heap.size w (Hi w (.slice A n c) (.slice C m d)) := (Below.refl _ _).alloc (Nat.le_refl _) _
 rw [hl] at c1
 have c2 := Av A n c l w.heap.size _ hn hc hm (h.below hp)
 have c3 := Av C m d k w.heap.size _ gn gc gm (g.below hp)
 obtain ⟨hl1, hl2⟩ : Am (val l) = false ∧ Am (val k) = false := by simpa using hl
 have n1 := Fd h.1 hl1
 obtain ⟨u, hu⟩ : ∃ u, nrm k = [u] := List.length_eq_one_iff.1 h1k
 have hkv : val k = u := by rw [← Ar, hu]; simp [val]
 have hgB := g.nrm
 rw [hu] at hgB c3
 have hul : u < 4294967296 := hgB.1 u (by simp)
 have hu0 : 0 < u := by
  rcases Nat.eq_zero_or_pos u with h0 | h0
  ·have := Cb (l := k) (by rw [hkv, h0])
   rw [this] at hu; cases hu
  ·exact h0
 obtain ⟨b, off, hCe, hbB, hcell⟩ := hgB.2 (by simp)
 have d0 := hcell 0 u rfl
 rw [Nat.add_zero] at d0
 subst hCe
 obtain ⟨N, hN⟩ : ∃ N, (nrm l).length = N := ⟨_, rfl⟩
 rw [h1k, hN] at hle
 rw [hN] at n1 c2
 obtain ⟨W, hW⟩ : ∃ W, Hi w (.slice A n c) (.slice (some ⟨b, off, none⟩) m d) = W := ⟨_, rfl⟩
 rw [hW] at c1 c2 c3 hp
 have HOK := Lh (fun (w' : World) A2 n2 c2 C2 m2 d2 h3 h4 h5 h6 h7 h8 h9 => DivT.ok (w := w) (w' := w') (A := A2) (C := C2) (n := n2) (c := c2) (m := m2) (d := d2) hl (by omega) h3 h4 h5 h6 h7 h8 h9)
 have c4 := Afw A N N (nrm l) W hN (Nat.le_refl _) (by omega) ((h.nrm.below hp).more hp.size)
 rw [Ev, hN] at c4
 have C5 := Lh (fun W2 (r : Row W2 W.heap.size (nrm l)) => Nq W.heap.size N N u (nrm l) W2 r h.1.nrm hN (by omega) hul hu0)
 rw [Ar] at C5
 rw [hkv] at HOK ⊢
 have hrl : val l % u < u := Nat.mod_lt _ hu0
 obtain ⟨q, hq⟩ : ∃ q, val l / u = q := ⟨_, rfl⟩
 obtain ⟨z, hz⟩ : ∃ z, val l % u = z := ⟨_, rfl⟩
 rw [hq, hz] at HOK C5
 rw [hz] at hrl
 have C7 := Lh (fun W => (Rl z (by omega) W).mono fun _ _ y => y.told (n := (wds z).length) (by rw [F2 z (by omega)]))
 rw [F2 z (by omega)] at C7
 have HW := Lh hW
 have HP := Lh hp
 rw [← hp.cell (p := ⟨b, off, none⟩) hbB] at d0
 have z0 : ((1 : Int) == 0) = false := rfl
 have z1 : ¬ (N : Int) < 1 := by omega
 have z2 : IntKind.u64.wrap (z : Int) = (z : Int) := IntWalk.u64_in _ (by omega)
 have HN1 := Lh n1
 clear h g hn hc hm gn gc gm hl hp hl1 hl2 n1 hkv hu hul hu0 hN hW hle h1k hgB hcell hrl hq hz
 go_enter Tryz.func341, Tryz.ntmps341
 go_wp2_with fail
 rw [show w.alloc (.cells #[.slice A n c, .slice (some ⟨b, off, none⟩) m d] 180) = W from HW.out]
 refine c1.mono ?_
 rintro e w1 ⟨rfl, rfl⟩
 go_wp2_with fail
 refine c2.mono ?_
 rintro e w1 ⟨rfl, rfl⟩
 go_wp2_with fail
 refine c3.mono ?_
 rintro e w1 ⟨rfl, rfl⟩
 go_wp2_with fail
 refine c4.mono ?_
 rintro e w2 ⟨rfl, r2, b2⟩
 have d2 := d0
 rw [← b2.cell (p := ⟨b, off, none⟩) (Nat.lt_of_lt_of_le hbB HP.out.size)] at d2
 have C6 := C5.out _ r2
 clear c1 c2 c3 c4 C5 r2
 go_wp2_with fail
 refine C6.mono ?_
 rintro e w3 ⟨rfl, S, r3, s1, s2, s3, b3⟩
 have B3 := Aa HP.out (b2.trans b3)
 have hlt3 := r3.lt
 have c8 := Av (some ⟨W.heap.size, 0, none⟩) N N S w3.heap.size w3 s1 (Nat.le_refl _) (by have := HN1.out; omega) ((r3.rw0 s2).more hlt3)
 have HR3 := Lh ((r3.rw0 s2).more hlt3).nrm
 rw [Be s2, s3] at c8 HR3
 have HLQ := Lh (show (wds q).length ≤ N by rw [← s3, ← Be s2, ← s1]; exact Aw S)
 clear r3 s1 s2 s3 b3 b2 C6 d0 hlt3
 go_wp2_with fail
 refine c8.mono ?_
 rintro e w' ⟨rfl, rfl⟩
 go_wp2_with fail
 refine (C7.out _).mono ?_
 rintro e w4 ⟨A4, c4, rfl, ⟨hc4, r4⟩, b4⟩
 have HF := Lh (HOK.out w4 _ _ (wds q).length A4 _ c4 rfl (Nat.le_refl _) rfl hc4 (HR3.out.step b4) r4 (Aa B3 b4))
 clear r4 hc4 b4
 go_wp2
 (try simp only [Exit.inBlock, Exit.then])
 refine bodyPost_ret (Bl rfl _ _ _) rfl ?_
 exact HF.out
theorem Adi (A C : Option Addr) (n c m d : Nat) (l k : List Nat) (w : World) (hn : l.length = n) (hc : n ≤ c) (hm : n ≤ 35184372088832) (h : RW w w.heap.size A l)
  (gn : k.length = m) (gc : m ≤ d) (gm : m ≤ 35184372088832) (g : RW w w.heap.size C k) (hl : (Am (val l) || Am (val k)) = false) (hle : (nrm k).length ≤ (nrm l).length) (h1k : 1 < (nrm k).length) :
  Cp 341 #[.slice A n c, .slice C m d] w (DivT (Lc (val l) (val k)) (Kv (val l) (val k)) (Hq (val l) (val k)) w) := by
 have c1 := Dw A C n c m d l k w hn hc hm h gn gc gm g
 have hp : Below w.heap.size w (Hi w (.slice A n c) (.slice C m d)) := (Below.refl _ _).alloc (Nat.le_refl _) _
 rw [hl] at c1
 have c2 := Av A n c l w.heap.size _ hn hc hm (h.below hp)
 have c3 := Av C m d k w.heap.size _ gn gc gm (g.below hp)
 obtain ⟨hl1, hl2⟩ : Am (val l) = false ∧ Am (val k) = false := by simpa using hl
 have n1 := Fd h.1 hl1
 have n2 := Fd g.1 hl2
 have hk0 : 0 < val k := by
  rcases Nat.eq_zero_or_pos (val k) with h0 | h0
  ·rw [Cb h0] at h1k; simp at h1k
  ·exact h0
 obtain ⟨N, hN⟩ : ∃ N, (nrm l).length = N := ⟨_, rfl⟩
 obtain ⟨M, hM⟩ : ∃ M, (nrm k).length = M := ⟨_, rfl⟩
 rw [hN] at n1 c2 hle
 rw [hM] at n2 c3 hle h1k
 obtain ⟨W, hW⟩ : ∃ W, Hi w (.slice A n c) (.slice C m d) = W := ⟨_, rfl⟩
 rw [hW] at c1 c2 c3 hp
 have HOK := Lh (fun (w' : World) A2 n2 c2 C2 m2 d2 h3 h4 h5 h6 h7 h8 h9 => DivT.ok (w := w) (w' := w') (A := A2) (C := C2) (n := n2) (c := c2) (m := m2) (d := d2) hl hk0 h3 h4 h5 h6 h7 h8 h9)
 obtain ⟨K, hK⟩ : ∃ K, N + 1 = K + M := ⟨N + 1 - M, by omega⟩
 have c4 := Ny A C N N M K (M - 1) M (nrm l) (nrm k) W hN n1 ((h.nrm.below hp).more hp.size) hM (by omega) ((g.nrm.below hp).more hp.size) (Ev k) hK (by omega)
 rw [Ar, Ar] at c4
 have HW := Lh hW
 have HP := Lh hp
 have z0 : ((M : Int) == 0) = false := by simp; omega
 have z1 : ¬ (N : Int) < (M : Int) := by omega
 have z2 : ((M : Int) == 1) = false := by simp; omega
 have HK := Lh (show K ≤ 1024 ∧ N + 1 ≤ 1025 by omega)
 obtain ⟨q, hq⟩ : ∃ q, val l / val k = q := ⟨_, rfl⟩
 obtain ⟨z, hz⟩ : ∃ z, val l % val k = z := ⟨_, rfl⟩
 rw [hq, hz] at HOK
 unfold Nh at c4
 rw [hq, hz] at c4
 clear h g hn hc hm gn gc gm hl hp hl1 hl2 n1 n2 hN hM hW hle h1k hk0 hq hz hK
 go_enter Tryz.func341, Tryz.ntmps341
 go_wp2_with fail
 rw [show w.alloc (.cells #[.slice A n c, .slice C m d] 180) = W from HW.out]
 refine c1.mono ?_
 rintro e w1 ⟨rfl, rfl⟩
 go_wp2_with fail
 refine c2.mono ?_
 rintro e w1 ⟨rfl, rfl⟩
 go_wp2_with fail
 refine c3.mono ?_
 rintro e w1 ⟨rfl, rfl⟩
 go_wp2_with fail
 refine c4.mono ?_
 rintro e w2 ⟨S, T, g1, g2, rfl, r2, t2, s1, s2, s3, s4, s5, s6, b2⟩
 have B2 := Aa HP.out b2
 have hlt2 := r2.lt
 have hlt3 := t2.lt
 have c5 := Av (some ⟨g2, 0, none⟩) K K S w2.heap.size w2 s1 (Nat.le_refl _) (by have := HK.out; omega) ((r2.rw0 s3).more hlt2)
 have c6 := Av (some ⟨g1, 0, none⟩) (N + 1) (N + 1) T w2.heap.size w2 s2 (Nat.le_refl _) (by have := HK.out; omega) ((t2.rw0 s4).more hlt3)
 have HR2 := Lh ((r2.rw0 s3).more hlt2).nrm
 have HR3 := Lh ((t2.rw0 s4).more hlt3).nrm
 rw [Be s3, s5] at c5 HR2
 rw [Be s4, s6] at c6 HR3
 have HF := Lh (HOK.out w2 _ _ (wds q).length _ _ (wds z).length rfl (Nat.le_refl _) rfl (Nat.le_refl _) HR2.out HR3.out B2)
 clear r2 t2 s1 s2 s3 s4 s5 s6 b2 hlt2 hlt3 c1 c2 c3 c4
 go_wp2_with fail
 refine c5.mono ?_
 rintro e w' ⟨rfl, rfl⟩
 go_wp2_with fail
 refine c6.mono ?_
 rintro e w' ⟨rfl, rfl⟩
 go_wp2
 (try simp only [Exit.inBlock, Exit.then])
 refine bodyPost_ret (Bl rfl _ _ _) rfl ?_
 exact HF.out
theorem Ahw (A C : Option Addr) (n c m d : Nat) (l k : List Nat) (w : World) (hn : l.length = n) (hc : n ≤ c) (hm : n ≤ 35184372088832) (h : RW w w.heap.size A l)
  (gn : k.length = m) (gc : m ≤ d) (gm : m ≤ 35184372088832) (g : RW w w.heap.size C k) :
  Cp 341 #[.slice A n c, .slice C m d] w (DivT (Lc (val l) (val k)) (Kv (val l) (val k)) (Hq (val l) (val k)) w) := by
 cases hl : (Am (val l) || Am (val k))
 ·rcases Nat.eq_zero_or_pos (val k) with h0 | h0
  ·exact Ae0 A C n c m d l k w hn hc hm h gn gc gm g hl h0
  ·have hp : 0 < (nrm k).length := List.length_pos_iff.2 (fun e => by rw [← Ar, e] at h0; simp [val] at h0)
   rcases Nat.lt_or_ge (nrm l).length (nrm k).length with h1 | h1
   ·exact Abz A C n c m d l k w hn hc hm h gn gc gm g hl h1
   ·by_cases h2 : (nrm k).length = 1
    ·exact Af2 A C n c m d l k w hn hc hm h gn gc gm g hl h1 h2
    ·exact Adi A C n c m d l k w hn hc hm h gn gc gm g hl h1 (by omega)
 ·exact Agf A C n c m d l k w hn hc hm h gn gc gm g hl

open Go.RowKit
theorem NatPost.err {v : Nat} {w w' : World} {e : Ending} (h : NatPost v w e w') (hl : Am v = true) : e = .returned (.tuple #[.slice none 0 0, .int .i64 3]) ∧ Below w.heap.size w w' := by
 obtain ⟨A, n, c, k, h1, h2, h3⟩ := h
 rw [if_pos hl] at h2
 obtain ⟨rfl, rfl, rfl, rfl⟩ := h2
 exact ⟨h1, h3⟩
theorem Aez (n i : Nat) (hn : n < 9223372036854775808) : bits BinOp.and IntKind.i64 ((n : Int) / 2 ^ i) 1 = ((n / 2 ^ i % 2 : Nat) : Int) := by
 have h1 : n / 2 ^ i ≤ n := Nat.div_le_self _ _
 have e : ((n : Int) / 2 ^ i) = ((n / 2 ^ i : Nat) : Int) := by rw [Int.natCast_ediv, Int.natCast_pow]; rfl
 rw [e]
 obtain ⟨m, hm⟩ : ∃ m, n / 2 ^ i = m := ⟨_, rfl⟩
 rw [hm] at h1 ⊢
 show IntKind.i64.wrap ((BitVec.ofInt 64 (m : Int) &&& BitVec.ofInt 64 1).toNat : Int) = _
 have e1 : (BitVec.ofInt 64 1).toNat = 1 := by decide
 have e2 : (BitVec.ofInt 64 (m : Int)).toNat = m := by
  rw [BitVec.ofInt_natCast, BitVec.toNat_ofNat]; exact Nat.mod_eq_of_lt (by omega)
 rw [BitVec.toNat_and, e1, e2, Nat.and_one_is_mod, IntKind.wrap_i64]
 omega
theorem Ahh (b n : Nat) (w : World) (hb : b < 4294967296) (hn : n < 9223372036854775808) :
  Cp 337 #[.int .u32 b, .int .i64 n] w (NatPost (b ^ n) w) := by
 obtain ⟨F, hF⟩ : ∃ F, (wds b).length = F := ⟨_, rfl⟩
 obtain ⟨O, hO⟩ : ∃ O, (wds 1).length = O := ⟨_, rfl⟩
 have K1 := Lh (fun W => show Cp 304 #[.int .u64 b] W (Kb (wds b) F W) from by
  have := (Rl b (by omega) W).mono fun _ _ y => y.told (n := F) (by rw [F2 b (by omega)]; exact hF)
  rw [F2 b (by omega)] at this; exact this)
 have K2 := Lh (fun W => show Cp 304 #[.int .u64 1] W (Kb (wds 1) O W) from by
  have := (Rl 1 (by omega) W).mono fun _ _ y => y.told (n := O) (by rw [F2 1 (by omega)]; exact hO)
  rw [F2 1 (by omega)] at this; exact this)
 have hbl := Lib.bitLen_le n 64 (by omega) (by omega)
 have c3 := fun W => (Tryz.bits_Len (n : Int) W (by omega) (by omega)).mono fun _ _ (h : _ ∧ _ = W) => And.intro h.1 h.2.symm
 rw [Int.toNat_natCast] at c3
 obtain ⟨q0, hq0⟩ : ∃ q0, Lib.bitLen n = q0 := ⟨_, rfl⟩
 rw [hq0] at c3 hbl
 have hz : n / 2 ^ q0 = 0 := by
  rw [← hq0]
  rcases Nat.eq_zero_or_pos n with h0 | h0
  ·rw [h0]; exact Nat.zero_div _
  ·exact Nat.div_eq_of_lt (Lib.bitLenAux_bounds 64 n (by omega) (by omega)).2.2
 have HZ := Lh (show b ^ (n / 2 ^ q0) = 1 by rw [hz]; rfl)
 have HF := Lh hF
 have HO := Lh hO
 have hF1 : F ≤ 2 := by rw [← hF, ← F2 b (by omega)]; exact Aw _
 have k1 : IntKind.u64.wrap (b : Int) = (b : Int) := IntWalk.u64_in _ (by omega)
 have k2 : IntKind.u64.wrap (n : Int) = (n : Int) := IntWalk.u64_in _ (by omega)
 have HB := Lh hb
 have HN := Lh hn
 have n0 : (0 : Int) ≤ (n : Int) := by omega
 clear hb hn hF hO hq0 hz
 go_enter Tryz.func337, Tryz.ntmps337
 go_wp2_with fail
 refine (K1.out _).mono ?_
 rintro e w1 ⟨A1, c1, rfl, ⟨hc1, r1⟩, b1⟩
 go_wp2_with fail
 refine (K2.out _).mono ?_
 rintro e w2 ⟨A2, c2, rfl, ⟨hc2, r2⟩, b2⟩
 go_wp2_with fail
 refine Sm (c3 _) ?_
 have HR1 := Lh (r1.step b2)
 have HR2 := Lh r2
 have HB2 := Lh (Aa b1 b2)
 clear r1 r2 b1 b2 c3
 go_wp2
 go_loopw [7, 8] (fun v i wr => ∃ (q : Nat) (A : Option Addr) (N c : Nat), v = .slice A N c ∧ i = .int .i64 ((q : Int) - 1) ∧ q ≤ 64 ∧ Hid ((wds (b ^ (n / 2 ^ q))).length = N) ∧ N ≤ c ∧ Hid (RW wr wr.heap.size A (wds (b ^ (n / 2 ^ q)))) ∧ Hid (Am (b ^ (n / 2 ^ q)) = false) ∧ Below w2.heap.size w2 wr) (fun _ i _ => (intOf i + 1).toNat)
 case atStart => exact ⟨q0, A2, O, c2, rfl, rfl, hbl, Lh (by rw [HZ.out]; exact HO.out), hc2, Lh (by rw [HZ.out]; exact HR2.out), Lh (by rw [HZ.out]; exact D0 (by omega)), Below.refl _ _⟩
 case round =>
  obtain ⟨q, A, N, c, rfl, rfl, hq, HNq, hNc, HR, HL, hbw⟩ := hrel
  by_cases h0 : q = 0
  ·subst h0
   have HE := Lh (show b ^ (n / 2 ^ 0) = b ^ n by rw [Nat.pow_zero, Nat.div_one])
   have HX := Lh (NatPost.ok (w := w) HL.out HNq.out.symm hNc HR.out (Aa HB2.out hbw))
   go_wp2
   go_ret2
   rw [← HE.out]
   exact HX.out
  ·obtain ⟨i, rfl⟩ : ∃ i, q = i + 1 := ⟨q - 1, by omega⟩
   have hNl := Ada HL.out
   rw [HNq.out] at hNl
   have C1 := Lh (Xk A A N c N c (wds (b ^ (n / 2 ^ (i + 1)))) (wds (b ^ (n / 2 ^ (i + 1)))) wr HNq.out hNc (by omega) HR.out HNq.out hNc (by omega) HR.out (by rw [Ag, HL.out]; rfl))
   rw [Ag] at C1
   clear h0
   cases hsq : Am (b ^ (n / 2 ^ (i + 1)) * b ^ (n / 2 ^ (i + 1)))
   ·obtain ⟨N3, hN3⟩ : ∃ N3, (wds (b ^ (n / 2 ^ (i + 1)) * b ^ (n / 2 ^ (i + 1)))).length = N3 := ⟨_, rfl⟩
    have C2 := Lh (C1.out.mono fun _ _ x => x.one hsq hN3)
    have hi1 : (i : Int) ≤ 63 := by omega
    have hbt := Aez n i HN.out
    have hhalf := Ag3 b n i
    have hbit : n / 2 ^ i % 2 = 0 ∨ n / 2 ^ i % 2 = 1 := by omega
    rcases hbit with hbit | hbit
    ·rw [hbit, Nat.pow_zero, Nat.mul_one] at hhalf
     rw [hhalf] at C2 hsq hN3
     have hT : (bits BinOp.and IntKind.i64 ((n : Int) / 2 ^ i) 1 == 1) = false := by rw [hbt, hbit]; rfl
     have HN3 := Lh hN3
     have HSQ := Lh hsq
     clear hbit hbt hhalf hN3 hsq C1 hNl
     go_wp2_with fail
     refine C2.out.mono ?_
     rintro e w3 ⟨A3, c3, rfl, ⟨hc3, r3⟩, b3⟩
     have HR3 := Lh r3
     have HB3 := Lh (Aa hbw b3)
     clear r3 b3 C2
     go_wp2
     go_roundw
     case rel => exact ⟨i, A3, N3, c3, rfl, by go_num, by omega, HN3, hc3, HR3, HSQ, HB3.out⟩
     case measure => simp [intOf]
    ·rw [hbit, Nat.pow_one] at hhalf
     have hT : (bits BinOp.and IntKind.i64 ((n : Int) / 2 ^ i) 1 == 1) = true := by rw [hbt, hbit]; rfl
     have hN3l := Ada hsq
     rw [hN3] at hN3l
     have C4 := Lh (fun W A5 c5 (h5 : N3 ≤ c5) (r5 : RW W W.heap.size A5 (wds (b ^ (n / 2 ^ (i + 1)) * b ^ (n / 2 ^ (i + 1))))) (r6 : RW W W.heap.size A1 (wds b)) =>
      show Cp 338 #[.slice A5 N3 c5, .slice A1 F c1] W (NatPost (b ^ (n / 2 ^ i)) W) from by
       have := Xk A5 A1 N3 c5 F c1 _ _ W hN3 h5 (by omega) r5 HF.out hc1 (by omega) r6 (by rw [Ag, Ag, hsq, D0 HB.out]; rfl)
       rw [Ag, Ag, hhalf] at this
       exact this)
     clear hbit hbt hhalf hN3 hsq C1 hNl hN3l
     cases hmu : Am (b ^ (n / 2 ^ i))
     ·obtain ⟨N4, hN4⟩ : ∃ N4, (wds (b ^ (n / 2 ^ i))).length = N4 := ⟨_, rfl⟩
      have HN4 := Lh hN4
      have HMU := Lh hmu
      clear hN4 hmu
      go_wp2_with fail
      refine C2.out.mono ?_
      rintro e w3 ⟨A3, c3, rfl, ⟨hc3, r3⟩, b3⟩
      have D4 := Lh ((C4.out w3 A3 c3 hc3 r3 ((HR1.out.step hbw).step b3)).mono fun _ _ x => x.one HMU.out HN4.out)
      have hbw3 := Aa hbw b3
      clear r3 b3 C2 C4
      go_wp2_with fail
      refine D4.out.mono ?_
      rintro e w4 ⟨A4, c4, rfl, ⟨hc4, r4⟩, b4⟩
      have HR4 := Lh r4
      have HB4 := Lh (Aa hbw3 b4)
      clear r4 b4 D4
      go_wp2
      go_roundw
      case rel => exact ⟨i, A4, N4, c4, rfl, by go_num, by omega, HN4, hc4, HR4, HMU, HB4.out⟩
      case measure => simp [intOf]
     ·have HMU := Lh hmu
      have HLN := Lh (Afs b _ n (Nat.div_le_self n (2 ^ i)) hmu)
      clear hmu
      go_wp2_with fail
      refine C2.out.mono ?_
      rintro e w3 ⟨A3, c3, rfl, ⟨hc3, r3⟩, b3⟩
      have D4 := Lh ((C4.out w3 A3 c3 hc3 r3 ((HR1.out.step hbw).step b3)).mono fun _ _ x => x.err HMU.out)
      have hbw3 := Aa hbw b3
      clear r3 b3 C2 C4
      go_wp2_with fail
      refine D4.out.mono ?_
      rintro e w4 ⟨rfl, b4⟩
      have HB4 := Lh (Aa HB2.out (Aa hbw3 b4))
      clear b4 D4
      go_wp2
      go_ret2
      exact NatPost.long HLN.out HB4.out
   ·have HSQ := Lh hsq
    have HLN := Lh (show Am (b ^ n) = true by rw [Ajp] at hsq; exact Afs b _ n (Aj7 n i) hsq)
    have C2 := Lh (C1.out.mono fun _ _ x => x.err hsq)
    clear hsq hNl C1
    go_wp2_with fail
    refine C2.out.mono ?_
    rintro e w3 ⟨rfl, b3⟩
    have HB3 := Lh (Aa HB2.out (Aa hbw b3))
    clear b3 C2
    go_wp2
    go_ret2
    exact NatPost.long HLN.out HB3.out

open Go.RowKit
end
section
def Hj (x : Nat) : Bool := decide (9218868437227405312 < Cm x)
def Ih (x : Nat) : Bool := decide (Cm x = 9218868437227405312)
theorem Vt (x : Nat) : (FloatKind.f64.format.order x x != some .eq) = Hj x := by
 unfold Hj
 show (Ieee.double.order x x != some .eq) = _
 by_cases h : 9218868437227405312 < Cm x
 ·rw [Ic (.inl h), decide_eq_true h]; rfl
 ·rw [Ht (by omega) (by omega), decide_eq_false h]
  have : compare (Gc x) (Gc x) = .eq := by simp [compare, compareOfLessAndEq]
  rw [this]; rfl
theorem Ads (a b : Int) : (some (compare a b) == some Ordering.lt) = decide (a < b) := by
 simp only [compare, compareOfLessAndEq]
 by_cases h : a < b
 ·simp [h]
 ·by_cases h2 : a = b
  ·simp [h2]
  ·simp [h, h2]
theorem Ajz (a b : Int) : (some (compare a b) == some Ordering.gt) = decide (b < a) := by
 simp only [compare, compareOfLessAndEq]
 by_cases h : a < b
 ·simp [h]; omega
 ·by_cases h2 : a = b
  ·simp [h2]
  ·simp [h, h2]; omega
theorem Ajd (a b : Int) : (some (compare a b) == some Ordering.eq) = decide (a = b) := by
 simp only [compare, compareOfLessAndEq]
 by_cases h : a < b
 ·simp [h]; omega
 ·by_cases h2 : a = b
  ·simp [h2]
  ·simp [h, h2]
theorem Acs (x : Nat) : (FloatKind.f64.format.order x 0 == some .lt) = (!Hj x && (Eg x && decide (0 < Cm x))) := by
 show (Ieee.double.order x 0 == some .lt) = _
 unfold Hj
 by_cases h : 9218868437227405312 < Cm x
 ·rw [Ic (.inl h), decide_eq_true h]; rfl
 ·rw [Ht (by omega) (by decide), decide_eq_false h, Ads]
  have e : Gc 0 = 0 := by decide
  rw [e]
  unfold Gc
  cases Eg x <;> simp <;> omega
theorem Hc (x : Nat) : (FloatKind.f64.format.order x 0 == some .eq) = decide (Cm x = 0) := by
 show (Ieee.double.order x 0 == some .eq) = _
 by_cases h : 9218868437227405312 < Cm x
 ·rw [Ic (.inl h)]
  have : ¬ Cm x = 0 := by omega
  rw [decide_eq_false this]; rfl
 ·rw [Ht (by omega) (by decide), Ajd]
  have e : Gc 0 = 0 := by decide
  rw [e]
  unfold Gc
  cases Eg x <;> simp
theorem Ae5 (x : Nat) : (FloatKind.f64.format.order x 9218868437227405311 == some .gt) = (Ih x && !Eg x) := by
 show (Ieee.double.order x 9218868437227405311 == some .gt) = _
 unfold Ih
 by_cases h : 9218868437227405312 < Cm x
 ·rw [Ic (.inl h)]
  have : ¬ Cm x = 9218868437227405312 := by omega
  rw [decide_eq_false this]; rfl
 ·rw [Ht (by omega) (by decide), Ajz]
  have e : Gc 9218868437227405311 = 9218868437227405311 := by decide
  rw [e]
  unfold Gc
  cases Eg x
  ·simp; omega
  ·simp
theorem Ga (x : Nat) (w : World) : Cq 238 #[.float .f64 x] (.bool (Hj x)) w := by
 have h := Vt x
 go_enter Tryz.func238, Tryz.ntmps238
 go_wp2
 go_ret
 exact ⟨by rw [← h]; rfl, rfl⟩
theorem Aeu (x : Nat) (hx : x < 18446744073709551616) : bits BinOp.andNot IntKind.u64 (x : Int) 9223372036854775808 = ((Cm x : Nat) : Int) := by
 show IntKind.u64.wrap ((BitVec.ofInt 64 (x : Int) &&& ~~~ BitVec.ofInt 64 9223372036854775808).toNat : Int) = _
 have e1 : (BitVec.ofInt 64 (x : Int)) = BitVec.ofNat 64 x := by rw [BitVec.ofInt_natCast]
 have e2 : (~~~ BitVec.ofInt 64 9223372036854775808) = BitVec.ofNat 64 (2 ^ 63 - 1) := by decide
 rw [e1, e2, BitVec.toNat_and, BitVec.toNat_ofNat, BitVec.toNat_ofNat, Nat.mod_eq_of_lt (by omega : x < 2 ^ 64), Nat.mod_eq_of_lt (by omega : 2 ^ 63 - 1 < 2 ^ 64), Nat.and_two_pow_sub_one_eq_mod, IntKind.wrap_u64]
 unfold Cm
 omega
theorem Dz (x : Nat) (w : World) : (callFunc 57 #[.float .f64 x]).run Tryz.prog w = .ok (.value (.int .u64 x)) w := by
 rw [run_callFunc_extern (e := Extern.MathFloatBits.float64bits) Tryz.func57 (by kernel_rfl) (by kernel_rfl) (by kernel_rfl) (by kernel_rfl)]
 rfl
theorem Df (x : Nat) (w : World) : (callFunc 296 #[.int .u64 x]).run Tryz.prog w = .ok (.value (.float .f64 x)) w := by
 rw [run_callFunc_extern (e := Extern.MathFloatBits.float64frombits) Tryz.func296 (by kernel_rfl) (by kernel_rfl) (by kernel_rfl) (by kernel_rfl)]
 rfl
theorem Re (x : Nat) (w : World) (hx : x < 18446744073709551616) : Cq 269 #[.float .f64 x] (.float .f64 (Cm x)) w := by
 have h := Aeu x hx
 have h1 := Dz x w
 have h2 := Df (Cm x) w
 clear hx
 go_enter Tryz.func269, Tryz.ntmps269
 go_wp2
 go_ret
 exact ⟨by rfl, rfl⟩
theorem Ph (x : Nat) : Cm (Cm x) = Cm x ∧ Eg (Cm x) = false := by
 unfold Cm Eg
 refine ⟨by omega, ?_⟩
 rw [Nat.div_eq_of_lt (Nat.mod_lt _ (by omega))]; rfl
theorem Fw (x : Nat) (w : World) (hx : x < 18446744073709551616) : Cq 210 #[.float .f64 x, .int .i64 0] (.bool (Ih x)) w := by
 have h := Ae5 (Cm x)
 have h2 : (Ih (Cm x) && !Eg (Cm x)) = Ih x := by
  unfold Ih
  rw [(Ph x).1, (Ph x).2]; simp
 rw [h2] at h
 have C1 := Lh (fun W => Re x W hx)
 clear hx h2
 go_enter Tryz.func210, Tryz.ntmps210
 go_wp2_with fail
 refine Sm (C1.out _) ?_
 go_wp2
 go_ret
 exact ⟨by rw [← h]; rfl, rfl⟩

open Go.RowKit
theorem Fk (n : Nat) (h : n < 18446744073709551616) : nrm (two n) = wds n := by rw [Be (Agx h), Zq]
def stk (N b : Nat) : Nat := if N % 2 ^ b = 0 then N / 2 ^ b else N / 2 ^ b / 2 * 2 + 1
theorem Aia (N b : Nat) : evn (stk N b) 11 = evn N (11 + b) := by
 have hP := Nat.two_pow_pos b
 have hr := Nat.mod_lt N hP
 have hN := Nat.div_add_mod N (2 ^ b)
 have hp : 2 ^ (11 + b) = 2048 * 2 ^ b := by rw [Nat.pow_add]
 have hdiv : N / 2 ^ (11 + b) = N / 2 ^ b / 2048 := by rw [hp, Nat.mul_comm, ← Nat.div_div_eq_div_mul]
 have hmod : N % 2 ^ (11 + b) = N / 2 ^ b % 2048 * 2 ^ b + N % 2 ^ b := by
  rw [hp, Nat.mul_comm 2048, Nat.mod_mul, Nat.mul_comm, Nat.add_comm]
 unfold evn stk
 rw [hdiv, hmod, hp]
 rw [show (2 : Nat) ^ 11 = 2048 from rfl]
 generalize 2 ^ b = P at *
 generalize N / P = H at *
 generalize N % P = r at *
 clear hN hdiv hmod hp
 have hh : H % 2048 < 2048 := Nat.mod_lt _ (by omega)
 have hW : (if r = 0 then H else H / 2 * 2 + 1) / 2048 = H / 2048 := by split <;> omega
 rw [hW]
 rcases Nat.lt_trichotomy (H % 2048) 1024 with h1 | h1 | h1
 ·have h2 : (H % 2048 + 1) * P ≤ 1024 * P := Nat.mul_le_mul_right _ (by omega)
  rw [Nat.add_mul, Nat.one_mul] at h2
  have h3 : (if r = 0 then H else H / 2 * 2 + 1) % 2048 < 1024 := by split <;> omega
  rw [decide_eq_false (show ¬ 2048 < 2 * ((if r = 0 then H else H / 2 * 2 + 1) % 2048) by omega), decide_eq_false (show ¬ 2048 = 2 * ((if r = 0 then H else H / 2 * 2 + 1) % 2048) by omega)]
  rw [decide_eq_false (show ¬ 2048 * P < 2 * (H % 2048 * P + r) by omega), decide_eq_false (show ¬ 2048 * P = 2 * (H % 2048 * P + r) by omega)]
 ·rw [h1]
  by_cases h0 : r = 0
  ·subst h0
   rw [if_pos rfl, h1]
   rw [decide_eq_false (show ¬ 2048 < 2 * 1024 by omega), decide_eq_true (show 2048 = 2 * 1024 by omega), decide_eq_false (show ¬ 2048 * P < 2 * (1024 * P + 0) by omega), decide_eq_true (show 2048 * P = 2 * (1024 * P + 0) by omega)]
  ·rw [if_neg h0, decide_eq_true (show 2048 < 2 * ((H / 2 * 2 + 1) % 2048) by omega), decide_eq_true (show 2048 * P < 2 * (1024 * P + r) by omega)]
   rfl
 ·have h2 : 1025 * P ≤ H % 2048 * P := Nat.mul_le_mul_right _ (by omega)
  have h3 : 1024 < (if r = 0 then H else H / 2 * 2 + 1) % 2048 := by split <;> omega
  rw [decide_eq_true (show 2048 < 2 * ((if r = 0 then H else H / 2 * 2 + 1) % 2048) by omega), decide_eq_true (show 2048 * P < 2 * (H % 2048 * P + r) by omega)]
  rfl
def scl (x b : Nat) : Nat := if x / 4503599627370496 + b < 2047 then x + b * 4503599627370496 else 9218868437227405312
theorem Hx {N L : Nat} (h1 : 2 ^ L ≤ N) (h2 : N < 2 ^ (L + 1)) (hL : 52 ≤ L) : 4503599627370496 ≤ evn N (L - 52) ∧ evn N (L - 52) ≤ 9007199254740992 := by
 have e1 : 4503599627370496 ≤ N / 2 ^ (L - 52) := by
  rw [Nat.le_div_iff_mul_le (Nat.two_pow_pos _), show 4503599627370496 = 2 ^ 52 from rfl, ← Nat.pow_add, show 52 + (L - 52) = L by omega]
  exact h1
 have e2 : N / 2 ^ (L - 52) < 9007199254740992 := by
  rw [Nat.div_lt_iff_lt_mul (Nat.two_pow_pos _), show 9007199254740992 = 2 ^ 53 from rfl, ← Nat.pow_add, show 53 + (L - 52) = L + 1 by omega]
  exact h2
 unfold evn
 have : ∀ c : Bool, c.toNat ≤ 1 := by decide
 have := this (decide (2 ^ (L - 52) < 2 * (N % 2 ^ (L - 52))) || (decide (2 ^ (L - 52) = 2 * (N % 2 ^ (L - 52))) && decide (N / 2 ^ (L - 52) % 2 = 1)))
 omega
theorem P4 {N b : Nat} (h1 : 2 ^ (63 + b) ≤ N) (h2 : N < 2 ^ (63 + b + 1)) : 2 ^ 63 ≤ stk N b ∧ stk N b < 2 ^ 64 := by
 have e1 : 2 ^ 63 ≤ N / 2 ^ b := by
  rw [Nat.le_div_iff_mul_le (Nat.two_pow_pos _), ← Nat.pow_add]
  exact h1
 have e2 : N / 2 ^ b < 2 ^ 64 := by
  rw [Nat.div_lt_iff_lt_mul (Nat.two_pow_pos _), ← Nat.pow_add, show 64 + b = 63 + b + 1 by omega]
  exact h2
 unfold stk
 rw [show (2 : Nat) ^ 63 = 9223372036854775808 from rfl] at *
 rw [show (2 : Nat) ^ 64 = 18446744073709551616 from rfl] at *
 split <;> omega
theorem Ajt {N b : Nat} (h1 : 2 ^ (63 + b) ≤ N) (h2 : N < 2 ^ (63 + b + 1)) : fl N = scl (fl (stk N b)) b := by
 obtain ⟨s1, s2⟩ := P4 h1 h2
 have f1 := Mf h1 h2 (by omega)
 have f2 := Mf s1 s2 (by omega)
 obtain ⟨r1, r2⟩ := Hx s1 s2 (by omega)
 rw [show 63 + b - 52 = 11 + b by omega] at f1
 rw [show 63 - 52 = 11 from rfl, Aia] at f2 r1 r2
 rw [f1, f2]
 generalize evn N (11 + b) = v at *
 clear f1 f2 h1 h2 s1 s2
 unfold scl
 split <;> omega
theorem Ai0 {N : Nat} (K : Nat) (hK : K = 1024) (h : 2 ^ K ≤ N) : fl N = 9218868437227405312 := by
 have h0 : 0 < N := Nat.lt_of_lt_of_le (Nat.two_pow_pos K) h
 obtain ⟨a1, a2⟩ := Db N h0
 have hL : 1024 ≤ N.log2 := by
  have : 2 ^ K < 2 ^ (N.log2 + 1) := Nat.lt_of_le_of_lt h a2
  have := (Nat.pow_lt_pow_iff_right (a := 2) (by omega)).1 this
  omega
 obtain ⟨r1, r2⟩ := Hx a1 a2 (by omega)
 rw [Mf a1 a2 (by omega)]
 generalize N.log2 = L at *
 omega
theorem Aga {X : Nat} (h : X < 9218868437227405312) : scl X 0 = X := by
 unfold scl
 split <;> omega
theorem one_mul {y : Nat} (h1 : 4503599627370496 ≤ y) (h2 : y < 9218868437227405312) : Ieee.double.mul 4607182418800017408 y = some y := by
 have e1 : Ieee.double.signWeight = 9223372036854775808 := by decide
 have e2 : Ieee.double.binade = 4503599627370496 := by decide
 have e3 : Ieee.double.infRung = 9218868437227405312 := by decide
 have e4 : Ieee.double.leastPlace = -1074 := by decide
 have e5 : Ieee.double.fractionBits = 52 := rfl
 have r1 : Ieee.double.read 4607182418800017408 = .number false 4503599627370496 (-52) := by decide
 have r2 : Ieee.double.read y = .number false (4503599627370496 + y % 4503599627370496) (-1074 + ((y / 4503599627370496 - 1 : Nat) : Int)) := by
  unfold Ieee.Format.read
  rw [e1, e2, e3, e4]
  have q1 : y % 9223372036854775808 = y := Nat.mod_eq_of_lt (by omega)
  have q2 : y / 9223372036854775808 % 2 = 0 := by omega
  simp only [q1, q2]
  rw [if_neg (by omega), if_pos h2]
  rfl
 unfold Ieee.Format.mul
 rw [r1, r2]
 show some (Ieee.double.nearest false (4503599627370496 * (4503599627370496 + y % 4503599627370496)) (-52 + (-1074 + ((y / 4503599627370496 - 1 : Nat) : Int)))) = _
 have ht : y % 4503599627370496 < 4503599627370496 := Nat.mod_lt _ (by omega)
 have hq : y / 4503599627370496 < 2047 := by omega
 have hy := Nat.div_add_mod y 4503599627370496
 have hq1 : 1 ≤ y / 4503599627370496 := by omega
 generalize y % 4503599627370496 = t at *
 generalize y / 4503599627370496 = q at *
 have hlog : (4503599627370496 * (4503599627370496 + t)).log2 = 104 := by
  refine Kc ?_ ?_
  ·rw [show (2 : Nat) ^ 104 = 4503599627370496 * 4503599627370496 from rfl]; omega
  ·rw [show (2 : Nat) ^ (104 + 1) = 4503599627370496 * 9007199254740992 from rfl]; omega
 unfold Ieee.Format.nearest
 rw [if_neg (by omega), e2, e3, e4, e5, hlog]
 have e6 : max (-52 + (-1074 + ((q - 1 : Nat) : Int)) + ((104 : Nat) : Int) - ((52 : Nat) : Int)) (-1074) = (q : Int) - 1075 := by omega
 rw [e6]
 dsimp only
 have q1 : (-52 + (-1074 + ((q - 1 : Nat) : Int)) - ((q : Int) - 1075)).toNat = 0 := by omega
 have q2 : ((q : Int) - 1075 - (-52 + (-1074 + ((q - 1 : Nat) : Int)))).toNat = 52 := by omega
 have q3 : ((q : Int) - 1075 - -1074).toNat = q - 1 := by omega
 rw [q1, q2, q3, Nat.shiftLeft_zero, Ew _ _ (by rw [hlog]; omega), Nat.mul_comm 4503599627370496]
 have hev := D9 (4503599627370496 + t) 52
 rw [show (2 : Nat) ^ 52 = 4503599627370496 from rfl] at hev
 rw [hev, Kh, Nat.min_eq_left (by omega)]
 exact congrArg some (by omega)

open Go.RowKit
theorem Ec {x : Nat} (h : x < 9223372036854775808) : Cm x = x ∧ Eg x = false ∧ Gc x = (x : Int) := by
 have h1 : Cm x = x := Nat.mod_eq_of_lt h
 have h2 : Eg x = false := by unfold Eg; rw [Nat.div_eq_of_lt h]; rfl
 refine ⟨h1, h2, ?_⟩
 unfold Gc
 rw [h1, h2]
 rfl
theorem Aab {x y : Nat} (hx : x ≤ 9218868437227405312) (hy : y ≤ 9218868437227405312) : (FloatKind.f64.format.order x y == some .lt) = decide (x < y) := by
 show (Ieee.double.order x y == some .lt) = _
 obtain ⟨a1, _, a3⟩ := Ec (x := x) (by omega)
 obtain ⟨b1, _, b3⟩ := Ec (x := y) (by omega)
 rw [Ht (by omega) (by omega), Ads, a3, b3]
 simp
theorem Fi (w : World) : Cq 261 #[.int .i64 1] (.float .f64 9218868437227405312) w := by
 have h2 : (callFunc 296 #[.int .u64 9218868437227405312]).run Tryz.prog w = .ok (.value (.float .f64 9218868437227405312)) w := Df 9218868437227405312 w
 go_enter Tryz.func261, Tryz.ntmps261
 go_wp2
 go_ret
 exact ⟨by rfl, rfl⟩
theorem F5 (x : Nat) (w : World) (h1 : 4503599627370496 ≤ x) (h2 : x < 9218868437227405312) : Cq 369 #[.float .f64 x] (.tuple #[.float .f64 x, .int .i64 0]) w := by
 have C1 := Lh (fun W => Re x W (by omega))
 rw [(Ec (x := x) (by omega)).1] at C1
 have h := Aab (x := x) (y := 4503599627370496) (by omega) (by omega)
 rw [decide_eq_false (by omega)] at h
 clear h1 h2
 go_enter Tryz.func369, Tryz.ntmps369
 go_wp2_with fail
 refine Sm (C1.out _) ?_
 go_wp2
 go_ret2
 exact ⟨rfl, rfl⟩
theorem Ah2 {x : Nat} (hx : x < 9223372036854775808) : x &&& 2 ^ 63 = 0 := by
 apply Nat.eq_of_testBit_eq
 intro i
 rw [Nat.testBit_and, Nat.testBit_two_pow, Nat.zero_testBit]
 by_cases h : 63 = i
 ·subst h
  rw [Nat.testBit_lt_two_pow (show x < 2 ^ 63 from hx)]; rfl
 ·rw [decide_eq_false h, Bool.and_false]
theorem Js (x : Nat) (hx : x < 9223372036854775808) : bits BinOp.andNot IntKind.u64 (x : Int) 9218868437227405312 = ((x % 4503599627370496 : Nat) : Int) := by
 show IntKind.u64.wrap ((BitVec.ofInt 64 (x : Int) &&& ~~~ BitVec.ofInt 64 9218868437227405312).toNat : Int) = _
 have e1 : (BitVec.ofInt 64 (x : Int)) = BitVec.ofNat 64 x := by rw [BitVec.ofInt_natCast]
 have e2 : (~~~ BitVec.ofInt 64 9218868437227405312) = BitVec.ofNat 64 (2 ^ 63 ||| (2 ^ 52 - 1)) := by decide
 rw [e1, e2, BitVec.toNat_and, BitVec.toNat_ofNat, BitVec.toNat_ofNat, Nat.mod_eq_of_lt (by omega : x < 2 ^ 64), Nat.mod_eq_of_lt (by decide : 2 ^ 63 ||| (2 ^ 52 - 1) < 2 ^ 64), Nat.and_or_distrib_left, Nat.and_two_pow_sub_one_eq_mod, Ah2 hx, Nat.zero_or, IntKind.wrap_u64]
 omega
theorem Hs (q : Nat) (hq : q < 2048) : bits BinOp.and IntKind.i64 (q : Int) 2047 = (q : Int) := by
 show IntKind.i64.wrap ((BitVec.ofInt 64 (q : Int) &&& BitVec.ofInt 64 2047).toNat : Int) = _
 have e1 : (BitVec.ofInt 64 (q : Int)) = BitVec.ofNat 64 q := by rw [BitVec.ofInt_natCast]
 have e2 : (BitVec.ofInt 64 2047) = BitVec.ofNat 64 (2 ^ 11 - 1) := by decide
 rw [e1, e2, BitVec.toNat_and, BitVec.toNat_ofNat, BitVec.toNat_ofNat, Nat.mod_eq_of_lt (by omega : q < 2 ^ 64), Nat.mod_eq_of_lt (by omega : 2 ^ 11 - 1 < 2 ^ 64), Nat.and_two_pow_sub_one_eq_mod, Nat.mod_eq_of_lt hq, IntWalk.i64_in _ (by omega)]
theorem Nk (t q : Nat) (ht : t < 4503599627370496) (hq : q < 2048) : bits BinOp.or IntKind.u64 (t : Int) ((q * 4503599627370496 : Nat) : Int) = ((t + q * 4503599627370496 : Nat) : Int) := by
 rw [Gp t (q * 4503599627370496) (by omega) (by omega)]
 have := Nat.two_pow_add_eq_or_of_lt (i := 52) (b := t) ht q
 rw [Nat.or_comm, show q * 4503599627370496 = 2 ^ 52 * q by rw [Nat.mul_comm], ← this, Nat.add_comm]
theorem Oe (b : Int) (w : World) : Cq 312 #[.float .f64 0, .int .i64 b] (.float .f64 0) w := by
 have h : (FloatKind.f64.format.order 0 0 == some .eq) = true := by decide
 have C : Cq 344 #[.float .f64 0, .int .i64 b] (.float .f64 0) w := by
  go_enter Tryz.func344, Tryz.ntmps344
  go_wp2
  go_ret
  exact ⟨rfl, rfl⟩
 have C := Lh C
 clear h
 go_enter Tryz.func312, Tryz.ntmps312
 go_wp2_with fail
 refine C.out.mono ?_
 rintro e w' ⟨rfl, rfl⟩
 go_wp2
 go_ret
 exact ⟨rfl, rfl⟩
theorem M8 (x b : Nat) (w : World) (h1 : 4503599627370496 ≤ x) (h2 : x < 9218868437227405312) (hb : b < 1048576) : Cq 344 #[.float .f64 x, .int .i64 b] (.float .f64 (scl x b)) w := by
 obtain ⟨p1, p2, p3⟩ := Ec (x := x) (by omega)
 have C1 := Lh (fun W => Ga x W)
 have C2 := Lh (fun W => Fw x W (by omega))
 rw [show Hj x = false from by unfold Hj; rw [p1]; exact decide_eq_false (by omega)] at C1
 rw [show Ih x = false from by unfold Ih; rw [p1]; exact decide_eq_false (by omega)] at C2
 have C3 := Lh (fun W => F5 x W h1 h2)
 have C4 := Lh (fun W => Fi W)
 have h3 := Hc x
 rw [p1, decide_eq_false (by omega)] at h3
 have h4 := Acs x
 rw [p2, Bool.false_and, Bool.and_false] at h4
 have h5 := Dz x w
 have h6 := Js x (by omega)
 unfold scl
 obtain ⟨q, hq⟩ : ∃ q, x / 4503599627370496 = q := ⟨_, rfl⟩
 obtain ⟨t, ht⟩ : ∃ t, x % 4503599627370496 = t := ⟨_, rfl⟩
 rw [ht] at h6
 rw [hq]
 have h7 := Hs q (by omega)
 have k1 : (x : Int) / 4503599627370496 = (q : Int) := by omega
 have k2 : IntKind.i64.wrap (q : Int) = (q : Int) := IntWalk.i64_in _ (by omega)
 have k3 : IntKind.i64.wrap ((q : Int) - 1023) = (q : Int) - 1023 := IntWalk.i64_in _ (by omega)
 have k4 : IntKind.i64.wrap ((b : Int) + ((q : Int) - 1023)) = (b : Int) + ((q : Int) - 1023) := IntWalk.i64_in _ (by omega)
 have k5 : IntKind.i64.wrap (b : Int) = (b : Int) := IntWalk.i64_in _ (by omega)
 have t1 : decide ((b : Int) + ((q : Int) - 1023) < -1075) = false := decide_eq_false (by omega)
 by_cases hlt : q + b < 2047
 ·rw [if_pos hlt]
  have h8 := Nk t (b + q) (by omega) (by omega)
  have h9 := Df (t + (b + q) * 4503599627370496) w
  have h10 := one_mul (y := t + (b + q) * 4503599627370496) (by omega) (by omega)
  have h11 : (binOp BinOp.mul 22 (.float .f64 4607182418800017408) (.float .f64 (t + (b + q) * 4503599627370496))).run Tryz.prog w = .ok (.float .f64 (t + (b + q) * 4503599627370496)) w := run_float_arith _ _ _ _ _ _ _ h10
  clear h10
  have t2 : decide (1023 < (b : Int) + ((q : Int) - 1023)) = false := decide_eq_false (by omega)
  have t3 : decide ((b : Int) + ((q : Int) - 1023) < -1022) = false := decide_eq_false (by omega)
  have k6 : IntKind.i64.wrap ((b : Int) + ((q : Int) - 1023) + 1023) = ((b + q : Nat) : Int) := by rw [IntWalk.i64_in _ (by omega)]; omega
  have k7 : IntKind.u64.wrap ((b + q : Nat) : Int) = ((b + q : Nat) : Int) := by rw [IntKind.wrap_u64]; omega
  have hx : x + b * 4503599627370496 = t + (b + q) * 4503599627370496 := by omega
  rw [hx]
  obtain ⟨y, hy⟩ : ∃ y, t + (b + q) * 4503599627370496 = y := ⟨_, rfl⟩
  obtain ⟨z, hz⟩ : ∃ z, b + q = z := ⟨_, rfl⟩
  rw [hy] at h8 h9 h11 ⊢
  rw [hz] at h8 k6 k7
  have k8 : IntKind.u64.wrap ((z : Int) * 4503599627370496) = ((z * 4503599627370496 : Nat) : Int) := by rw [IntKind.wrap_u64]; omega
  rw [← k8] at h8
  clear k8
  clear h1 h2 hb p1 p2 p3 hq ht hlt hx hy hz
  go_enter Tryz.func344, Tryz.ntmps344
  go_wp2_with fail
  refine Sm (C2.out _) ?_
  go_wp2_with fail
  refine Sm (C1.out _) ?_
  go_wp2_with fail
  refine Sm (C3.out _) ?_
  go_wp2
  go_ret
  exact ⟨rfl, rfl⟩
 ·rw [if_neg hlt]
  have t2 : decide (1023 < (b : Int) + ((q : Int) - 1023)) = true := decide_eq_true (by omega)
  clear h1 h2 hb p1 p2 p3 hq ht hlt h6
  go_enter Tryz.func344, Tryz.ntmps344
  go_wp2_with fail
  refine Sm (C2.out _) ?_
  go_wp2_with fail
  refine Sm (C1.out _) ?_
  go_wp2_with fail
  refine Sm (C3.out _) ?_
  go_wp2_with fail
  refine Sm (C4.out _) ?_
  go_wp2
  go_ret
  exact ⟨rfl, rfl⟩
theorem Ky (x b : Nat) (w : World) (h1 : 4503599627370496 ≤ x) (h2 : x < 9218868437227405312) (hb : b < 1048576) : Cq 312 #[.float .f64 x, .int .i64 b] (.float .f64 (scl x b)) w := by
 have C := Lh (M8 x b w h1 h2 hb)
 clear h1 h2 hb
 go_enter Tryz.func312, Tryz.ntmps312
 go_wp2_with fail
 refine C.out.mono ?_
 rintro e w' ⟨rfl, rfl⟩
 go_wp2
 go_ret
 exact ⟨rfl, rfl⟩

open Go.RowKit
theorem Ci {l : List Nat} (h : Ws l) : l.getD 0 0 = val l % 4294967296 := by
 cases l with
 | nil => rfl
 | cons a r =>
  have := h.getD 0
  simp only [List.getD_cons_zero] at this ⊢
  simp only [val]
  omega
theorem E9 {l : List Nat} (h : Ws l) : l.getD 1 0 = val l / 4294967296 % 4294967296 := by
 cases l with
 | nil => rfl
 | cons a r =>
  have h0 := h.getD 0
  have h1 := Ci (l := r) (fun x hx => h x (List.mem_cons_of_mem _ hx))
  simp only [List.getD_cons_zero] at h0
  simp only [List.getD_cons_succ, val]
  omega
theorem Wo {N : Nat} (h : 0 < N) (hN : N < 2 ^ 65) : 4503599627370496 ≤ fl N ∧ fl N < 9218868437227405312 := by
 obtain ⟨a1, a2⟩ := Db N h
 have hL : N.log2 < 65 := by
  have : 2 ^ N.log2 < 2 ^ 65 := Nat.lt_of_le_of_lt a1 hN
  exact (Nat.pow_lt_pow_iff_right (a := 2) (by omega)).1 this
 rcases Nat.lt_or_ge N.log2 52 with h1 | h1
 ·rw [Ns a1 a2 (by omega)]
  have h3 : N * 2 ^ (52 - N.log2) < 9007199254740992 := by
   have : N * 2 ^ (52 - N.log2) < 2 ^ (N.log2 + 1) * 2 ^ (52 - N.log2) := Nat.mul_lt_mul_of_pos_right a2 (Nat.two_pow_pos _)
   rw [← Nat.pow_add, show N.log2 + 1 + (52 - N.log2) = 53 by omega] at this
   exact this
  omega
 ·obtain ⟨r1, r2⟩ := Hx a1 a2 h1
  rw [Mf a1 a2 h1]
  omega
theorem Ac8 {v n : Nat} (h1 : 2 ^ (n - 1) ≤ v) (h2 : v < 2 ^ n) (h0 : 0 < n) : stk v (n - 64) < 18446744073709551616 ∧ 0 < stk v (n - 64) ∧ fl v = scl (fl (stk v (n - 64))) (n - 64) := by
 rcases Nat.lt_or_ge 64 n with h | h
 ·obtain ⟨b, rfl⟩ : ∃ b, n = 64 + b := ⟨n - 64, by omega⟩
  have a1 : 2 ^ (63 + b) ≤ v := by rw [show 63 + b = 64 + b - 1 by omega]; exact h1
  have a2 : v < 2 ^ (63 + b + 1) := by rw [show 63 + b + 1 = 64 + b by omega]; exact h2
  rw [Nat.add_sub_cancel_left]
  obtain ⟨s1, s2⟩ := P4 a1 a2
  have := Nat.two_pow_pos 63
  exact ⟨s2, by omega, Ajt a1 a2⟩
 ·rw [show n - 64 = 0 by omega]
  have e : stk v 0 = v := by unfold stk; rw [Nat.pow_zero, Nat.mod_one, if_pos rfl, Nat.div_one]
  have hv : v < 2 ^ 64 := Nat.lt_of_lt_of_le h2 (Nat.pow_le_pow_right (by omega) h)
  have hp := Nat.two_pow_pos (n - 1)
  have hf := Wo (N := v) (by omega) (Nat.lt_of_lt_of_le hv (by decide))
  rw [e, Aga hf.2]
  exact ⟨hv, by omega, rfl⟩
theorem Ac7 (x : Nat) (hx : x < 18446744073709551616) : bits BinOp.or IntKind.u64 (x : Int) 1 = ((x / 2 * 2 + 1 : Nat) : Int) := by
 have h := Gp x 1 hx (by omega)
 rw [show ((1 : Nat) : Int) = 1 from rfl] at h
 rw [h]
 have e : x ||| 1 = x / 2 * 2 + 1 := by
  have h1 : x = 2 * (x / 2) + x % 2 := by omega
  have h2 := Nat.two_pow_add_eq_or_of_lt (i := 1) (b := 1) (by omega) (x / 2)
  rcases Nat.mod_two_eq_zero_or_one x with h3 | h3
  ·rw [h3, Nat.add_zero] at h1
   rw [Nat.pow_one] at h2
   rw [← h1] at h2
   omega
  ·have h4 := Nat.two_pow_add_eq_or_of_lt (i := 1) (b := 1) (by omega) (x / 2)
   rw [Nat.pow_one] at h4
   have h5 : x = 2 * (x / 2) ||| 1 := by rw [← h4]; omega
   rw [h5, Nat.or_assoc, Nat.or_self, ← h5]
   omega
 rw [e]
theorem Gq (y z : Nat) (hy : y < 4294967296) (hz : z < 4294967296) : bits BinOp.or IntKind.u64 (IntKind.u64.wrap ((y : Int) * 4294967296)) (z : Int) = ((z + y * 4294967296 : Nat) : Int) := by
 have e : IntKind.u64.wrap ((y : Int) * 4294967296) = ((y * 4294967296 : Nat) : Int) := by rw [IntKind.wrap_u64]; omega
 rw [e, Gp (y * 4294967296) z (by omega) (by omega)]
 have := Nat.two_pow_add_eq_or_of_lt (i := 32) (b := z) hz y
 rw [show y * 4294967296 = 2 ^ 32 * y by rw [Nat.mul_comm], ← this, Nat.add_comm]
theorem Xo (A : Option Addr) (n c : Nat) (l : List Nat) (w : World) (hn : l.length = n) (hc : n ≤ c) (hm : n ≤ 35184372087808) (h : RW w w.heap.size A l) (hb : 1024 < btl l) :
  Ct 285 #[.slice A n c] (.float .f64 (fl (val l))) w := by
 have C1 := Lh (Fj A n c l w.heap.size w hn hc (by omega) h)
 have C2 := Lh (fun W => Fi W)
 have h0 : nrm l ≠ [] := by intro e; unfold btl at hb; rw [if_pos e] at hb; omega
 obtain ⟨b1, b2, b3⟩ := Bc h.1 h0
 obtain ⟨K, hK⟩ : ∃ K, K = 1024 := ⟨_, rfl⟩
 have hf : fl (val l) = 9218868437227405312 := Ai0 K hK (Nat.le_trans (Nat.pow_le_pow_right (by omega) (by omega)) b1)
 rw [hf]
 obtain ⟨m, hm2⟩ : ∃ m, btl l = m := ⟨_, rfl⟩
 rw [hm2] at C1 hb
 have t1 : (1024 : Int) < (m : Int) := by omega
 clear hn hc hm h h0 b1 b2 b3 hK hf hm2 hb
 go_enter Tryz.func285, Tryz.ntmps285
 go_wp2_with fail
 refine C1.out.mono ?_
 rintro e w' ⟨rfl, rfl⟩
 go_wp2_with fail
 refine Sm (C2.out _) ?_
 go_wp2
 go_ret
 exact ⟨rfl, Below.refl _ _⟩
theorem Acg (A : Option Addr) (n c : Nat) (l : List Nat) (w : World) (hn : l.length = n) (hc : n ≤ c) (hm : n ≤ 35184372087808) (h : RW w w.heap.size A l) (hb : btl l ≤ 1024) :
  Ct 285 #[.slice A n c] (.float .f64 (fl (val l))) w := by
 have C1 := Lh (Fj A n c l w.heap.size w hn hc (by omega) h)
 have C2 := Lh (Agl A n c ((btl l - 64 : Nat) : Int) l w hn hc hm h)
 rw [Int.toNat_natCast] at C2
 obtain ⟨v, hv⟩ : ∃ v, val l = v := ⟨_, rfl⟩
 -- what is told of the number
 have hT : stk v (btl l - 64) < 18446744073709551616 ∧ (∀ W, Cq 312 #[.float .f64 (fl (stk v (btl l - 64))), .int .i64 (btl l - 64 : Nat)] (.float .f64 (fl v)) W) := by
  by_cases h0 : nrm l = []
  ·have e1 : btl l = 0 := by unfold btl; rw [if_pos h0]
   have e2 : v = 0 := by rw [← hv, ← Ar, h0]; rfl
   rw [e1, e2]
   have e3 : stk 0 (0 - 64) = 0 := by decide
   rw [e3, fl_zero]
   exact ⟨by omega, fun W => Oe _ W⟩
  ·obtain ⟨b1, b2, b3⟩ := Bc h.1 h0
   rw [hv] at b1 b2
   obtain ⟨s1, s2, s3⟩ := Ac8 b1 b2 b3
   have hf := Wo s2 (Nat.lt_trans s1 (by decide))
   refine ⟨s1, fun W => ?_⟩
   rw [s3]
   exact Ky _ _ W hf.1 hf.2 (by omega)
 rw [hv] at C2 ⊢
 obtain ⟨m, hm2⟩ : ∃ m, btl l = m := ⟨_, rfl⟩
 rw [hm2] at C1 C2 hT hb
 obtain ⟨b, hb2⟩ : ∃ b, m - 64 = b := ⟨_, rfl⟩
 rw [hb2] at C2 hT
 obtain ⟨u, hu⟩ : ∃ u, fl v = u := ⟨_, rfl⟩
 rw [hu] at hT ⊢
 obtain ⟨hlt, hL⟩ := hT
 have C4 := Lh hL
 have HST : Hid (stk v b < 18446744073709551616) := Lh hlt
 have t1 : decide ((1024 : Int) < (m : Int)) = false := decide_eq_false (by omega)
 have k1 : IntKind.i64.wrap ((m : Int) - 64) = (m : Int) - 64 := IntWalk.i64_in _ (by omega)
 have k2 : max ((m : Int) - 64) 0 = (b : Int) := by omega
 clear hn hc hm h hb hv hm2 hb2 hlt hL hu
 go_enter Tryz.func285, Tryz.ntmps285
 go_wp2_with fail
 refine C1.out.mono ?_
 rintro e w' ⟨rfl, rfl⟩
 go_wp2_with fail
 refine C2.out.mono ?_
 rintro e w2 ⟨A2, n2, c2, he, hn2, hc2, r2, hb2⟩
 obtain ⟨H, hH⟩ : ∃ H, v / 2 ^ b = H := ⟨_, rfl⟩
 obtain ⟨lb, hlb⟩ : ∃ lb, decide (v % 2 ^ b ≠ 0) = lb := ⟨_, rfl⟩
 have hs : stk v b = if lb = true then H / 2 * 2 + 1 else H := by
  unfold stk
  rw [hH, ← hlb]
  by_cases h0 : v % 2 ^ b = 0
  ·simp [h0]
  ·simp [h0]
 rw [hH] at hn2 r2
 rw [hlb] at he
 subst he
 rw [hs] at C4
 have hHl : H < 18446744073709551616 := by
  have := HST.out
  rw [hs] at this
  split at this <;> omega
 have hn22 : n2 ≤ 2 := by
  have := Aw (two H)
  rw [Fk H hHl, ← hn2] at this
  exact this
 have W1 := Lh (fun W (hW : Below w2.heap.size w2 W) => show Cp 329 #[.slice A2 n2 c2, .int .i64 1] W fun e w' => e = .returned (.int .u32 (H / 4294967296 : Nat)) ∧ W = w' from by
  have := Ez A2 n2 c2 1 (wds H) w2.heap.size W hn2.symm (by omega) (r2.below hW)
  rw [E9 (Az H), Ag, Nat.mod_eq_of_lt (by omega)] at this
  exact this)
 have W0 := Lh (fun W (hW : Below w2.heap.size w2 W) => show Cp 329 #[.slice A2 n2 c2, .int .i64 0] W fun e w' => e = .returned (.int .u32 (H % 4294967296 : Nat)) ∧ W = w' from by
  have := Ez A2 n2 c2 0 (wds H) w2.heap.size W hn2.symm (by omega) (r2.below hW)
  rw [Ci (Az H), Ag] at this
  exact this)
 have hj := Gq (H / 4294967296) (H % 4294967296) (by omega) (by omega)
 rw [show H % 4294967296 + H / 4294967296 * 4294967296 = H by omega] at hj
 have ho := Ac7 H hHl
 have hy := show H / 4294967296 < 4294967296 by omega
 have hz := show H % 4294967296 < 4294967296 by omega
 obtain ⟨y, hyy⟩ : ∃ y, H / 4294967296 = y := ⟨_, rfl⟩
 obtain ⟨z, hzz⟩ : ∃ z, H % 4294967296 = z := ⟨_, rfl⟩
 rw [hyy] at W1 hj hy
 rw [hzz] at W0 hj hz
 have y1 : IntKind.u64.wrap (y : Int) = (y : Int) := by rw [IntKind.wrap_u64]; omega
 have z1 : IntKind.u64.wrap (z : Int) = (z : Int) := by rw [IntKind.wrap_u64]; omega
 have HB := Lh hb2
 have hbd := Below.refl w2.heap.size w2
 clear hyy hzz hy hz hH hlb hs hHl hn2 hn22 hc2 r2 hb2 HST C1 C2 t1 k1 k2
 cases lb
 ·rw [if_neg (by decide)] at C4
  clear ho
  go_wp2_with (first
   | (go_at_call 329; (with_reducible refine (W1.out _ ?_).mono ?_); exact hbd; rintro e w' ⟨rfl, rfl⟩)
   | (go_at_call 329; (with_reducible refine (W0.out _ ?_).mono ?_); exact hbd; rintro e w' ⟨rfl, rfl⟩)
   | fail)
  refine Sm (C4.out _) ?_
  go_wp2
  go_ret
  exact ⟨rfl, HB.out⟩
 ·rw [if_pos rfl] at C4
  go_wp2_with (first
   | (go_at_call 329; (with_reducible refine (W1.out _ ?_).mono ?_); exact hbd; rintro e w' ⟨rfl, rfl⟩)
   | (go_at_call 329; (with_reducible refine (W0.out _ ?_).mono ?_); exact hbd; rintro e w' ⟨rfl, rfl⟩)
   | fail)
  refine Sm (C4.out _) ?_
  go_wp2
  go_ret
  exact ⟨rfl, HB.out⟩
theorem Wu (A : Option Addr) (n c : Nat) (l : List Nat) (w : World) (hn : l.length = n) (hc : n ≤ c) (hm : n ≤ 35184372087808) (h : RW w w.heap.size A l) :
  Ct 285 #[.slice A n c] (.float .f64 (fl (val l))) w := by
 by_cases hb : 1024 < btl l
 ·exact Xo A n c l w hn hc hm h hb
 ·exact Acg A n c l w hn hc hm h (by omega)

open Go.RowKit
structure NF (r z c M k : Nat) : Prop where
 lo : 4503599627370496 ≤ M
 hi : M < 9007199254740992
 hz : z = k * 4503599627370496 + M
 hc : Ay r * 2 ^ c = M * 2 ^ k
 top : z < 9218868437227405312
 way : (c = 0 ∧ z = r) ∨ (c = 52 ∧ r < 4503599627370496 ∧ Ieee.double.mul r 4841369599423283200 = some z)
theorem Aki {r : Nat} (h0 : 0 < r) (hr : r < 9218868437227405312) : ∃ z c M k, NF r z c M k := by
 rcases Nat.lt_or_ge r 4503599627370496 with h | h
 ·have hf := Ex (r := r) (by omega)
  obtain ⟨z, hz⟩ := Afm (N := r * 2 ^ 52) (M := r) (j := 52) rfl (by omega)
  have h1 : Ay z < Ay 4845873199050653696 := by
   obtain ⟨K, hK⟩ : ∃ K : Nat, K = 1075 := ⟨_, rfl⟩
   have e1 := Ba 4503599627370496 K (by omega) (by omega)
   rw [show K * 4503599627370496 + 4503599627370496 = 4845873199050653696 by rw [hK]] at e1
   rw [hz, e1]
   have h2 : r * 2 ^ 52 < 4503599627370496 * 2 ^ 52 := Nat.mul_lt_mul_of_pos_right h (Nat.two_pow_pos 52)
   have h3 : 4503599627370496 * 2 ^ 52 ≤ 4503599627370496 * 2 ^ K := Nat.mul_le_mul_left _ (Nat.pow_le_pow_right (by omega) (by omega))
   exact Nat.lt_of_lt_of_le h2 h3
  have hzt := Ia.1 h1
  have hzl : 4503599627370496 ≤ z := by
   rcases Nat.lt_or_ge z 4503599627370496 with h4 | h4
   ·have h5 := Ex (r := z) (by omega)
    have h6 : 1 * 2 ^ 52 ≤ r * 2 ^ 52 := Nat.mul_le_mul_right _ h0
    omega
   ·exact h4
  obtain ⟨M, k, a1, a2, a3, a4⟩ := El hzl
  refine ⟨z, 52, M, k, a1, a2, a3, by rw [hf, ← hz, a4], by omega, .inr ⟨rfl, h, ?_⟩⟩
  obtain ⟨K, hK⟩ : ∃ K : Nat, K = 1074 := ⟨_, rfl⟩
  refine Ln (K := K) hr (by omega) (by omega) hK ?_
  have e1 := Ba 4503599627370496 K (by omega) (by omega)
  rw [show K * 4503599627370496 + 4503599627370496 = 4841369599423283200 by rw [hK]] at e1
  rw [e1, hz, hf, show (4503599627370496 : Nat) = 2 ^ 52 from rfl, ← Nat.mul_assoc]
 ·obtain ⟨M, k, a1, a2, a3, a4⟩ := El h
  exact ⟨r, 0, M, k, a1, a2, a3, by rw [Nat.pow_zero, Nat.mul_one, a4], hr, .inl ⟨rfl, rfl⟩⟩
theorem Iq (r z : Nat) (w : World) (h1 : r < 4503599627370496) (hm : Ieee.double.mul r 4841369599423283200 = some z) : Cq 369 #[.float .f64 r] (.tuple #[.float .f64 z, .int .i64 (-52)]) w := by
 have C1 := Lh (fun W => Re r W (by omega))
 rw [(Ec (x := r) (by omega)).1] at C1
 have h := Aab (x := r) (y := 4503599627370496) (by omega) (by omega)
 rw [decide_eq_true h1] at h
 have h11 : (binOp BinOp.mul 22 (.float .f64 r) (.float .f64 4841369599423283200)).run Tryz.prog w = .ok (.float .f64 z) w := run_float_arith _ _ _ _ _ _ _ hm
 clear h1 hm
 go_enter Tryz.func369, Tryz.ntmps369
 go_wp2_with fail
 refine Sm (C1.out _) ?_
 go_wp2
 go_ret2
 exact ⟨rfl, rfl⟩
open Go.RowKit
theorem Ahx {y D : Nat} (h : 4503599627370496 ≤ y) : Ay (y + D * 4503599627370496) = Ay y * 2 ^ D := by
 obtain ⟨M, d, a1, a2, a3, a4⟩ := El h
 rw [a4, a3, show d * 4503599627370496 + M + D * 4503599627370496 = (d + D) * 4503599627370496 + M by omega, Ba _ _ a1 a2, Nat.pow_add, Nat.mul_assoc]
theorem Vx {z M k D u : Nat} (y : Nat) (hy0 : 0 < y) (hy : y < 4503599627370496) (hm : Ieee.double.mul y 4841369599423283200 = some z) (a1 : 4503599627370496 ≤ M) (a2 : M < 9007199254740992) (a3 : z = k * 4503599627370496 + M) (a4 : z < 9218868437227405312) (hD : D < 1048576) (hd : 52 ≤ D + k) (ht : D + k < 2098) (hu : u = (D + k - 52) * 4503599627370496 + M) (w : World) :
  Cq 344 #[.float .f64 y, .int .i64 (D : Nat)] (.float .f64 u) w := by
 obtain ⟨p1, p2, p3⟩ := Ec (x := y) (by omega)
 have C1 := Lh (fun W => Ga y W)
 have C2 := Lh (fun W => Fw y W (by omega))
 rw [show Hj y = false from by unfold Hj; rw [p1]; exact decide_eq_false (by omega)] at C1
 rw [show Ih y = false from by unfold Ih; rw [p1]; exact decide_eq_false (by omega)] at C2
 have C3 := Lh (fun W => Iq y z W hy hm)
 have h3 := Hc y
 rw [p1, decide_eq_false (by omega)] at h3
 have h5 := Dz z w
 have h6 := Js z (by omega)
 obtain ⟨t, ht2⟩ : ∃ t, M = 4503599627370496 + t := ⟨M - 4503599627370496, by omega⟩
 rw [show z % 4503599627370496 = t by omega] at h6
 have h7 := Hs (k + 1) (by omega)
 obtain ⟨Q, hQ⟩ : ∃ Q, D + k = Q + 51 := ⟨D + k - 51, by omega⟩
 have h8 := Nk t Q (by omega) (by omega)
 have e8 : t + Q * 4503599627370496 = u := by omega
 rw [e8] at h8
 have h9 := Df u w
 have h10 := one_mul (y := u) (by omega) (by omega)
 have h11 : (binOp BinOp.mul 22 (.float .f64 4607182418800017408) (.float .f64 u)).run Tryz.prog w = .ok (.float .f64 u) w := run_float_arith _ _ _ _ _ _ _ h10
 have k1 : (z : Int) / 4503599627370496 = ((k + 1 : Nat) : Int) := by omega
 have k2 : IntKind.i64.wrap ((k + 1 : Nat) : Int) = ((k + 1 : Nat) : Int) := IntWalk.i64_in _ (by omega)
 have k3 : IntKind.i64.wrap (((k + 1 : Nat) : Int) - 1023) = (k : Int) - 1022 := by rw [IntWalk.i64_in _ (by omega)]; omega
 have k4 : IntKind.i64.wrap ((D : Int) + -52) = (D : Int) - 52 := by rw [IntWalk.i64_in _ (by omega)]; omega
 have k5 : IntKind.i64.wrap ((D : Int) - 52 + ((k : Int) - 1022)) = (Q : Int) - 1023 := by rw [IntWalk.i64_in _ (by omega)]; omega
 have k6 : IntKind.i64.wrap ((Q : Int) - 1023 + 1023) = (Q : Int) := by rw [IntWalk.i64_in _ (by omega)]; omega
 have k7 : IntKind.u64.wrap (Q : Int) = (Q : Int) := by rw [IntKind.wrap_u64]; omega
 have k8 : IntKind.u64.wrap ((Q : Int) * 4503599627370496) = ((Q * 4503599627370496 : Nat) : Int) := by rw [IntKind.wrap_u64]; omega
 have t1 : decide ((Q : Int) - 1023 < -1075) = false := decide_eq_false (by omega)
 have t2 : decide (1023 < (Q : Int) - 1023) = false := decide_eq_false (by omega)
 have t3 : decide ((Q : Int) - 1023 < -1022) = false := decide_eq_false (by omega)
 obtain ⟨q, hq⟩ : ∃ q, k + 1 = q := ⟨_, rfl⟩
 obtain ⟨X1, hX1⟩ : ∃ X1, (k : Int) - 1022 = X1 := ⟨_, rfl⟩
 obtain ⟨X2, hX2⟩ : ∃ X2, (D : Int) - 52 = X2 := ⟨_, rfl⟩
 obtain ⟨X3, hX3⟩ : ∃ X3, (Q : Int) - 1023 = X3 := ⟨_, rfl⟩
 rw [hq] at h7 k1 k2 k3
 rw [hX1] at k3 k5
 rw [hX2] at k4 k5
 rw [hX3] at k5 k6 t1 t2 t3
 rw [← k8] at h8
 clear hy0 hy hm a1 a2 a3 a4 hD hd ht hu p1 p2 p3 ht2 hQ e8 h10 k8 hq hX1 hX2 hX3
 go_enter Tryz.func344, Tryz.ntmps344
 go_wp2_with fail
 refine Sm (C2.out _) ?_
 go_wp2_with fail
 refine Sm (C1.out _) ?_
 go_wp2_with fail
 refine Sm (C3.out _) ?_
 go_wp2
 go_ret
 exact ⟨rfl, rfl⟩
theorem Uh {z M k D u r : Nat} (y : Nat) (hy0 : 0 < y) (hy : y < 4503599627370496) (hm : Ieee.double.mul y 4841369599423283200 = some z) (a1 : 4503599627370496 ≤ M) (a2 : M < 9007199254740992) (a3 : z = k * 4503599627370496 + M) (a4 : z < 9218868437227405312) (hd : D + k < 52) (hu : u = (D + k + 1) * 4503599627370496 + M) (hr : Ieee.double.mul 4368491638549381120 u = some r) (w : World) :
  Cq 344 #[.float .f64 y, .int .i64 (D : Nat)] (.float .f64 r) w := by
 obtain ⟨p1, p2, p3⟩ := Ec (x := y) (by omega)
 have C1 := Lh (fun W => Ga y W)
 have C2 := Lh (fun W => Fw y W (by omega))
 rw [show Hj y = false from by unfold Hj; rw [p1]; exact decide_eq_false (by omega)] at C1
 rw [show Ih y = false from by unfold Ih; rw [p1]; exact decide_eq_false (by omega)] at C2
 have C3 := Lh (fun W => Iq y z W hy hm)
 have h3 := Hc y
 rw [p1, decide_eq_false (by omega)] at h3
 have h5 := Dz z w
 have h6 := Js z (by omega)
 obtain ⟨t, ht2⟩ : ∃ t, M = 4503599627370496 + t := ⟨M - 4503599627370496, by omega⟩
 rw [show z % 4503599627370496 = t by omega] at h6
 have h7 := Hs (k + 1) (by omega)
 obtain ⟨Q, hQ⟩ : ∃ Q, D + k + 2 = Q := ⟨_, rfl⟩
 have h8 := Nk t Q (by omega) (by omega)
 have e8 : t + Q * 4503599627370496 = u := by omega
 rw [e8] at h8
 have h9 := Df u w
 have h11 : (binOp BinOp.mul 22 (.float .f64 4368491638549381120) (.float .f64 u)).run Tryz.prog w = .ok (.float .f64 r) w := run_float_arith _ _ _ _ _ _ _ hr
 have k1 : (z : Int) / 4503599627370496 = ((k + 1 : Nat) : Int) := by omega
 have k2 : IntKind.i64.wrap ((k + 1 : Nat) : Int) = ((k + 1 : Nat) : Int) := IntWalk.i64_in _ (by omega)
 have k3 : IntKind.i64.wrap (((k + 1 : Nat) : Int) - 1023) = (k : Int) - 1022 := by rw [IntWalk.i64_in _ (by omega)]; omega
 have k4 : IntKind.i64.wrap ((D : Int) + -52) = (D : Int) - 52 := by rw [IntWalk.i64_in _ (by omega)]; omega
 have k5 : IntKind.i64.wrap ((D : Int) - 52 + ((k : Int) - 1022)) = (Q : Int) - 1076 := by rw [IntWalk.i64_in _ (by omega)]; omega
 have k9 : IntKind.i64.wrap ((Q : Int) - 1076 + 53) = (Q : Int) - 1023 := by rw [IntWalk.i64_in _ (by omega)]; omega
 have k6 : IntKind.i64.wrap ((Q : Int) - 1023 + 1023) = (Q : Int) := by rw [IntWalk.i64_in _ (by omega)]; omega
 have k7 : IntKind.u64.wrap (Q : Int) = (Q : Int) := by rw [IntKind.wrap_u64]; omega
 have k8 : IntKind.u64.wrap ((Q : Int) * 4503599627370496) = ((Q * 4503599627370496 : Nat) : Int) := by rw [IntKind.wrap_u64]; omega
 have t1 : decide ((Q : Int) - 1076 < -1075) = false := decide_eq_false (by omega)
 have t2 : decide (1023 < (Q : Int) - 1076) = false := decide_eq_false (by omega)
 have t3 : decide ((Q : Int) - 1076 < -1022) = true := decide_eq_true (by omega)
 obtain ⟨q, hq⟩ : ∃ q, k + 1 = q := ⟨_, rfl⟩
 obtain ⟨X1, hX1⟩ : ∃ X1, (k : Int) - 1022 = X1 := ⟨_, rfl⟩
 obtain ⟨X2, hX2⟩ : ∃ X2, (D : Int) - 52 = X2 := ⟨_, rfl⟩
 obtain ⟨X3, hX3⟩ : ∃ X3, (Q : Int) - 1076 = X3 := ⟨_, rfl⟩
 obtain ⟨X4, hX4⟩ : ∃ X4, (Q : Int) - 1023 = X4 := ⟨_, rfl⟩
 rw [hq] at h7 k1 k2 k3
 rw [hX1] at k3 k5
 rw [hX2] at k4 k5
 rw [hX3] at k5 k9 t1 t2 t3
 rw [hX4] at k9 k6
 rw [← k8] at h8
 clear hy0 hy hm a1 a2 a3 a4 hd hu hr p1 p2 p3 ht2 hQ e8 k8 hq hX1 hX2 hX3 hX4
 go_enter Tryz.func344, Tryz.ntmps344
 go_wp2_with fail
 refine Sm (C2.out _) ?_
 go_wp2_with fail
 refine Sm (C1.out _) ?_
 go_wp2_with fail
 refine Sm (C3.out _) ?_
 go_wp2
 go_ret
 exact ⟨rfl, rfl⟩
theorem Vd {r : Nat} (h : r < 9218868437227405312) (K : Nat) (hK : K = 2098) : Ay r < 2 ^ K := by
 obtain ⟨J, hJ⟩ : ∃ J : Nat, J = 2046 := ⟨_, rfl⟩
 have e1 := Ba 4503599627370496 J (by omega) (by omega)
 rw [show J * 4503599627370496 + 4503599627370496 = 9218868437227405312 by rw [hJ]] at e1
 have := Es h
 rw [e1, show (4503599627370496 : Nat) = 2 ^ 52 from rfl, ← Nat.pow_add, show 52 + J = K by omega] at this
 exact this
theorem Aco {y D u : Nat} (h0 : 0 < y) (hy : y < 9218868437227405312) (hu : u < 9218868437227405312) (h : Ay u = Ay y * 2 ^ D) (w : World) :
  Cq 344 #[.float .f64 y, .int .i64 (D : Nat)] (.float .f64 u) w := by
 obtain ⟨K, hK⟩ : ∃ K : Nat, K = 2098 := ⟨_, rfl⟩
 have hDK : D < K := by
  have h1 := Vd hu K hK
  have h2 := Gg.2 h0
  have h3 : 1 * 2 ^ D ≤ Ay y * 2 ^ D := Nat.mul_le_mul_right _ h2
  exact (Nat.pow_lt_pow_iff_right (a := 2) (by omega)).1 (by omega)
 by_cases hn : 4503599627370496 ≤ y
 ·have h1 := Ahx (D := D) hn
  rw [← h] at h1
  have h2 := J4 h1
  have h3 := M8 y D w hn hy (by omega)
  have h4 : scl y D = u := by unfold scl; rw [if_pos (by omega)]; exact h2
  rw [h4] at h3
  exact h3
 ·obtain ⟨z, c, M, k, hnf⟩ := Aki h0 hy
  rcases hnf.way with ⟨_, h1⟩ | ⟨rfl, _, h1⟩
  ·have := hnf.hz; have := hnf.lo; omega
  ·have a1 := hnf.lo
   have a2 := hnf.hi
   have a3 := hnf.hz
   have a4 := hnf.top
   have a5 := hnf.hc
   have hU : Ay u * 2 ^ 52 = M * 2 ^ (D + k) := by
    rw [h, Nat.mul_assoc, Nat.mul_comm (2 ^ D), ← Nat.mul_assoc, a5, Nat.mul_assoc, ← Nat.pow_add, Nat.add_comm k D]
   by_cases hd : 52 ≤ D + k
   ·obtain ⟨d, hd2⟩ : ∃ d, D + k = d + 52 := ⟨D + k - 52, by omega⟩
    rw [hd2] at hU
    have h2 : M * 2 ^ d = Ay u := Dt (x := M) (y := Ay u) hU.symm
    rw [← Ba M d a1 a2] at h2
    have h3 := J4 h2
    exact Vx y h0 (by omega) h1 a1 a2 a3 a4 (by omega) hd (by omega) (by rw [show D + k - 52 = d by omega]; exact h3.symm) w
   ·refine Uh (u := (D + k + 1) * 4503599627370496 + M) y h0 (by omega) h1 a1 a2 a3 a4 (by omega) rfl ?_ w
    obtain ⟨J, hJ⟩ : ∃ J : Nat, J = 969 := ⟨_, rfl⟩
    obtain ⟨L, hL⟩ : ∃ L : Nat, L = 1074 := ⟨_, rfl⟩
    have e1 := Ba 4503599627370496 J (by omega) (by omega)
    rw [show J * 4503599627370496 + 4503599627370496 = 4368491638549381120 by rw [hJ]] at e1
    refine Ln (K := L) (by omega) (by omega) hu hL ?_
    have h2 : Ay u * 2 ^ L = Ay u * 2 ^ 52 * 2 ^ (J + 53) := by rw [Nat.mul_assoc, ← Nat.pow_add, show 52 + (J + 53) = L by omega]
    rw [e1, Ba _ _ a1 a2, h2, hU, show (4503599627370496 : Nat) = 2 ^ 52 from rfl, ← Nat.pow_add, Nat.mul_left_comm, ← Nat.pow_add, Nat.mul_assoc, ← Nat.pow_add, show 52 + J + (D + k + 1) = D + k + (J + 53) by omega]
theorem Qc {y D u : Nat} (h0 : 0 < y) (hy : y < 9218868437227405312) (hu : u < 9218868437227405312) (h : Ay u = Ay y * 2 ^ D) (w : World) :
  Cq 312 #[.float .f64 y, .int .i64 (D : Nat)] (.float .f64 u) w := by
 have C := Lh (Aco h0 hy hu h w)
 clear h0 hy hu h
 go_enter Tryz.func312, Tryz.ntmps312
 go_wp2_with fail
 refine C.out.mono ?_
 rintro e w' ⟨rfl, rfl⟩
 go_wp2
 go_ret
 exact ⟨rfl, rfl⟩

open Go.RowKit
theorem Ls : ∀ (l : List Nat) (k : Nat), val (l.drop k) ≤ val l := by
 intro l
 induction l with
 | nil => intro k; simp [val]
 | cons a r ih =>
  intro k
  cases k with
  | zero => exact Nat.le_refl _
  | succ k =>
   have := ih k
   simp only [List.drop_succ_cons, val]
   omega
theorem Io {l : List Nat} {k : Nat} (h : k < l.length) : val (l.drop k) = l.getD k 0 + 4294967296 * val (l.drop (k + 1)) := by
 rw [List.drop_eq_getElem_cons h]
 simp only [val]
 rw [List.getD_eq_getElem?_getD, List.getElem?_eq_getElem h, Option.getD_some]
open Go.RowKit
theorem Oc (v d : Nat) : evn v (d + 1) = v / 2 ^ (d + 1) + (decide (v / 2 ^ d % 2 = 1) && (decide (v % 2 ^ d ≠ 0) || decide (v / 2 ^ (d + 1) % 2 = 1))).toNat := by
 have hP := Nat.two_pow_pos d
 have hr := Nat.mod_lt v hP
 have hp : 2 ^ (d + 1) = 2 * 2 ^ d := by rw [Nat.pow_succ, Nat.mul_comm]
 have hmod : v % 2 ^ (d + 1) = v / 2 ^ d % 2 * 2 ^ d + v % 2 ^ d := by
  rw [hp, Nat.mul_comm 2, Nat.mod_mul, Nat.mul_comm, Nat.add_comm]
 unfold evn
 rw [hmod, hp]
 generalize v / (2 * 2 ^ d) = Q
 generalize v / 2 ^ d = P at *
 generalize v % 2 ^ d = r at *
 generalize 2 ^ d = T at *
 congr 2
 rcases Nat.mod_two_eq_zero_or_one P with h | h
 ·rw [h]
  rw [decide_eq_false (show ¬ 2 * T < 2 * (0 * T + r) by omega), decide_eq_false (show ¬ 2 * T = 2 * (0 * T + r) by omega)]
  rfl
 ·rw [h]
  by_cases h0 : r = 0
  ·subst h0
   rw [decide_eq_false (show ¬ 2 * T < 2 * (1 * T + 0) by omega), decide_eq_true (show 2 * T = 2 * (1 * T + 0) by omega)]
   simp
  ·rw [decide_eq_true (show 2 * T < 2 * (1 * T + r) by omega), decide_eq_true (show r ≠ 0 from h0)]
   simp
theorem Mw (w : World) : RW (w.alloc (.cells #[.int .u32 1] 156)) (w.heap.size + 1) (some ⟨w.heap.size, 0, none⟩) [1] := ⟨Ws.cons (by omega) Ws.nil, fun _ => by
 refine ⟨w.heap.size, 0, rfl, by omega, fun k u hu => ?_⟩
 rw [Nat.zero_add, cell_of_row _ _ _ _ _ _ (heap_alloc_new w (.cells #[.int .u32 1] 156))]
 match k, hu with
 | 0, hu => simp at hu; subst hu; rfl
 | k + 1, hu => simp at hu⟩
theorem Fg (x : Nat) (hx : x < 4294967296) : bits BinOp.and IntKind.u32 (x : Int) 1 = ((x % 2 : Nat) : Int) := by
 have h := Sz x 0 hx
 rw [Nat.pow_zero, Nat.div_one] at h
 rw [← h]
 congr 1
 simp
theorem Md {n : Nat} (h : 0 < n) : 0 < (wds n).length := by
 rcases Nat.eq_zero_or_pos (wds n).length with h0 | h0
 ·have := Ag n
  rw [List.length_eq_zero_iff.1 h0] at this
  simp only [val] at this
  omega
 ·exact h0

end
end Go.Proofs.YtmimeejjaneedaaGreatDoor
