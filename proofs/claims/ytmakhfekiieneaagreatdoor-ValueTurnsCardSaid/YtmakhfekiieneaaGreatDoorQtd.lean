/-
  Merged texts (BE, Dc, De, Dh, St, Sa, Sc, Sd, BG, Nv, Tc).
-/
import Derived.Test.YtmakhfekiieneaaGreatDoorQtc
import Derived.Lib.SlTrimSet
import Derived.Lib.Case
open Go.RowKit
set_option maxRecDepth 100000
set_option maxHeartbeats 40000000
namespace Go.Proofs.YtmakhfekiieneaaGreatDoor
section
theorem Zk {l : List Nat} (h : Ws l) (hv : l = [] ∨ 4294967296 ^ (l.length - 1) ≤ val l) : nrm l = l := by
 rcases hv with rfl | hv
 ·rfl
 ·have h1 := Az l
  rcases Nat.lt_or_ge (nrm l).length l.length with h2 | h2
  ·have h3 := Ea h.nrm
   rw [Ap] at h3
   have h4 : 4294967296 ^ (nrm l).length ≤ 4294967296 ^ (l.length - 1) := Nat.pow_le_pow_right (by omega) (by omega)
   omega
  ·have h3 := Ht l
   rw [List.take_of_length_le h2] at h3
   exact h3
structure TpT (a : List Nat) (x y k : Nat) (S : List Nat) (q : Nat) : Prop where
 len : S.length = a.length
 ws : Ws S
 far : ∀ j, k ≤ j → S.getD j 0 = a.getD j 0
 sum : val (S.take k) + 4294967296 ^ k * q = x * val (a.take k) + y
 low : q < 4294967296
theorem TpT.start {a : List Nat} (ha : Ws a) {x y : Nat} (hy : y < 4294967296) : TpT a x y 0 a y := ⟨rfl, ha, fun _ _ => rfl, by simp [val], hy⟩
def tpC (a : List Nat) (x k q : Nat) : Nat := q + a.getD k 0 * x
theorem Ai2 {a : List Nat} {x k q : Nat} (ha : Ws a) (hx : x < 4294967296) (hq : q < 4294967296) : a.getD k 0 * x ≤ 18446744065119617025 ∧ tpC a x k q ≤ 18446744069414584320 := by
 have h1 := ha.getD k
 have h3 : a.getD k 0 * x ≤ 4294967295 * 4294967295 := Nat.mul_le_mul (by omega) (by omega)
 unfold tpC
 omega
theorem TpT.next {a : List Nat} {x y k : Nat} {S : List Nat} {q : Nat} (h : TpT a x y k S q) (ha : Ws a) (hx : x < 4294967296) (hk : k < a.length) :
  TpT a x y (k + 1) (S.set k (tpC a x k q % 4294967296)) (tpC a x k q / 4294967296) := by
 obtain ⟨h1, h2, h3, h4, h5⟩ := h
 have hc := (Ai2 (k := k) ha hx h5).2
 refine ⟨by rw [List.length_set]; exact h1, h2.set (by omega), fun j hj => by rw [An (by omega)]; exact h3 j (by omega), ?_, by omega⟩
 rw [Bp _ k (by rw [List.length_set]; omega), Bp a k hk, Bb (by omega)]
 rw [Ck (l := S.set k (tpC a x k q % 4294967296)) (m := S) k (by rw [List.length_set]; omega) (by omega) (fun j hj => An (by omega))]
 have e := Gl (4294967296 ^ k) (tpC a x k q) (val (S.take k)) (x * (val (a.take k) + 4294967296 ^ k * a.getD k 0) + y) (by
  have : tpC a x k q = q + a.getD k 0 * x := rfl
  rw [this]
  grind)
 rw [Nat.pow_succ]
 exact e
theorem TpT.fin {n x y q : Nat} {S : List Nat} (h : TpT (wds n) x y (wds n).length S q) (hx : 0 < x) : (if q = 0 then S else S ++ [q]) = wds (n * x + y) := by
 obtain ⟨h1, h2, h3, h4, h5⟩ := h
 rw [List.take_of_length_le (by omega), List.take_of_length_le (Nat.le_refl _), Ad] at h4
 by_cases hq : q = 0
 ·rw [if_pos hq]
  rw [hq, Nat.mul_zero, Nat.add_zero] at h4
  have hv : val S = n * x + y := by rw [h4, Nat.mul_comm]
  rw [← hv, ← Bg h2]
  refine (Zk h2 ?_).symm
  rcases Nat.eq_zero_or_pos (wds n).length with h0 | h0
  ·left; exact List.eq_nil_of_length_eq_zero (by omega)
  ·right
   have h6 := Pi (l := wds n) (by rw [Ik]; intro e; rw [e] at h0; simp at h0)
   rw [Ik, Ad] at h6
   rw [h1, hv]
   have : n * 1 ≤ n * x := Nat.mul_le_mul_left _ hx
   omega
 ·rw [if_neg hq]
  have hw : Ws (S ++ [q]) := h2.append (Ws.cons h5 Ws.nil)
  have hv : val (S ++ [q]) = n * x + y := by rw [Gf, h1, h4, Nat.mul_comm]
  rw [← hv, ← Bg hw]
  refine (Zk hw (.inr ?_)).symm
  rw [Gf, List.length_append, List.length_singleton, Nat.add_sub_cancel]
  have : 4294967296 ^ S.length * 1 ≤ 4294967296 ^ S.length * q := Nat.mul_le_mul_left _ (by omega)
  omega
theorem OwnW.cell {B : Nat} {l : List Nat} {g n c : Nat} {w : World} (h : OwnW B l (.slice (some ⟨g, 0, none⟩) n c) w) (k : Nat) (hk : k < l.length) :
  w.cell? ⟨g, k, none⟩ = some (.int .u32 (l.getD k 0 : Nat)) ∧ w.frozen? ⟨g, k, none⟩ = false := by
 rcases h.2 with ⟨e, _⟩ | ⟨g', cap, cur, e, hB, hg, hcap, hmax, hcur, htk⟩
 ·cases e
 ·cases e
  refine ⟨?_, by simp [World.frozen?, hg]⟩
  have := World.ownsRow.cells (g := g) h rfl k (.int .u32 (l.getD k 0 : Nat)) (by rw [List.getElem?_map, getD_some hk]; rfl)
  by_cases hz : k = 0
  ·subst hz; simpa [Addr.add] using this
  ·simpa [Addr.add, hz] using this
theorem OwnW.set {B : Nat} {l : List Nat} {g n c : Nat} {w : World} (h : OwnW B l (.slice (some ⟨g, 0, none⟩) n c) w) (k u : Nat) :
  OwnW B (l.set k u) (.slice (some ⟨g, 0, none⟩) n c) (w.setCell ⟨g, k, none⟩ (.int .u32 (u : Nat))) := by
 rcases h.2 with ⟨e, _⟩ | ⟨g', cap, cur, e, hB, hg, hcap, hmax, hcur, htk⟩
 ·cases e
 ·cases e
  refine ⟨by rw [List.length_map, List.length_set, Nat.mul_one], .inr ⟨g, c, cur.set! k (.int .u32 (u : Nat)), by rw [List.length_set], hB, ?_, by rw [List.length_set]; exact hcap, hmax, ?_, ?_⟩⟩
  ·simp [World.setCell, Array.getElem?_modify, hg]
  ·simpa using hcur
  ·rw [List.map_set, ← htk]
   simp only [Array.set!_eq_setIfInBounds, Array.toList_setIfInBounds, List.length_set]
   rw [List.take_set]
theorem Qc (B : Nat) (v : Value) (n x y : Nat) (w : World) (h : OwnW B (wds n) v w) (hB : B ≤ w.heap.size) (hl : (wds n).length ≤ 1024) (hx : x < 4294967296) (hx0 : 0 < x) (hy : y < 4294967296) :
  Cp 173 #[v, .int .u32 x, .int .u32 y] w fun e w' => ∃ v', e = .returned v' ∧ OwnW B (wds (n * x + y)) v' w' ∧ Below B w w' := by
 obtain ⟨i0, hi, hz0, hz1, hz2⟩ := info_parts Ed
 have hy1 : IntKind.u64.wrap (y : Int) = (y : Int) := IntWalk.u64_in _ (by omega)
 have hx1 : IntKind.u64.wrap (x : Int) = (x : Int) := IntWalk.u64_in _ (by omega)
 have HX := Lh hx
 have HX0 := Lh hx0
 have HST := Lh (TpT.start (x := x) (Ax n) hy)
 rcases h.2 with ⟨rfl, h0⟩ | ⟨g, cap, cur, rfl, hBg, hg, hcap, hmax, hcur, htk⟩
 ·have hnil : wds n = [] := List.eq_nil_of_length_eq_zero h0
  have hn0 : n = 0 := by rw [← Ad n, hnil]; rfl
  have HF := Lh (show (if y = 0 then ([] : List Nat) else [y]) = wds (n * x + y) from by
   have := (show TpT (wds n) x y (wds n).length [] y from by rw [hnil]; exact TpT.start Ws.nil hy).fin hx0
   rw [← this]; rfl)
  have hOn : OwnW B [] (.slice none 0 0) w := OwnW.nil _ _
  by_cases hy0 : y = 0
  ·rw [if_pos hy0] at HF
   have b0 : ((y : Int) == 0) = true := by rw [hy0]; rfl
   clear h hl hx hx0 hy h0 hnil hn0 hy0 HST
   go_enter Tryz.func173, Tryz.ntmps173
   go_wp2
   go_loopw [14, 7] (fun iv cv wr => iv = .int .i64 0 ∧ cv = .int .u64 (y : Nat) ∧ w = wr) (fun _ _ _ => 0)
   case atStart => exact ⟨rfl, rfl, rfl⟩
   case round =>
    obtain ⟨rfl, rfl, rfl⟩ := hrel
    go_wp2
    go_ret
    exact ⟨_, rfl, by rw [← HF.out]; exact hOn, Below.refl _ _⟩
  ·rw [if_neg hy0] at HF
   have b0 : ((y : Int) == 0) = false := by simp; omega
   have k1 : IntKind.u32.wrap (y : Int) = (y : Int) := IntWalk.u32_in _ (by omega)
   clear h hl hx hx0 hy h0 hnil hn0 hy0 HST
   go_enter Tryz.func173, Tryz.ntmps173
   go_wp2
   go_loopw [14, 7] (fun iv cv wr => iv = .int .i64 0 ∧ cv = .int .u64 (y : Nat) ∧ w = wr) (fun _ _ _ => 0)
   case atStart => exact ⟨rfl, rfl, rfl⟩
   case round =>
    obtain ⟨rfl, rfl, rfl⟩ := hrel
    go_wp2_with (at_builtin; refine wpList_append_own _ rfl _ _ 121 rfl B 129 i0 (.int .u32 0) 1 4 Tryz.underlying121 hi hz0 hz1 hz2 rfl (by decide) _ _ _ rfl (World.ownsRow.alloc (w := w) hOn _) ⟨w.heap.size, 0, none⟩ 1 1 [.int .u32 (y : Nat)] rfl rfl ?c1 ?c2 ?c3 ?c4 ?c5 ?_)
    case c1 => exact (cell_one_new _ _ _)
    case c2 => simp [Value.oneCell']
    case c3 => simp [maxLen]
    case c4 => simp
    case c5 => simp; omega
    intro v' w2 hown hgr _
    have HO2 := Lh (OwnW.snoc (L := []) hown)
    have hbb : Below B w w2 := ((Below.refl _ _).alloc hB _).grown hgr (by simp; omega) (fun j hj => by simp [Value.ownBlock] at hj)
    clear hown hgr
    go_wp2
    go_ret
    exact ⟨_, rfl, by rw [← HF.out]; exact HO2.out, hbb⟩
 ·obtain ⟨N, hN⟩ : ∃ N, (wds n).length = N := ⟨_, rfl⟩
  have HO0 := Lh h
  have HN := Lh hN
  have HWS := Lh (Ax n)
  rw [hN] at hl hcap HO0 ⊢
  have hN1 : (N : Int) ≤ 1024 := by omega
  clear h hx hx0 hy hg hcur htk hN hmax
  go_enter Tryz.func173, Tryz.ntmps173
  go_wp2
  go_loopw [14, 7] (fun iv cv wr => ∃ (k : Nat) (S : List Nat) (q : Nat), iv = .int .i64 (k : Nat) ∧ cv = .int .u64 (q : Nat) ∧ k ≤ N ∧ Hid (OwnW B S (.slice (some ⟨g, 0, none⟩) N cap) wr) ∧ Hid (TpT (wds n) x y k S q) ∧ Below B w wr) (fun iv _ _ => N - (intOf iv).toNat)
  case atStart => exact ⟨0, wds n, y, rfl, rfl, Nat.zero_le _, HO0, HST, Below.refl _ _⟩
  case round =>
   obtain ⟨k, S, q, rfl, rfl, hk, HO, HT, hbw⟩ := hrel
   by_cases hlt : k < N
   ·have hkl : k < (wds n).length := by rw [HN.out]; exact hlt
    have hnx := HT.out.next HWS.out HX.out hkl
    obtain ⟨hcell, hfz⟩ := HO.out.cell k (by rw [HT.out.len]; exact hkl)
    rw [HT.out.far k (Nat.le_refl _)] at hcell
    obtain ⟨l1, l2⟩ := Ai2 (k := k) HWS.out HX.out HT.out.low
    have ul := HWS.out.getD k
    have ql := HT.out.low
    have et : tpC (wds n) x k q = q + (wds n).getD k 0 * x := rfl
    obtain ⟨t, ht⟩ : ∃ t, tpC (wds n) x k q = t := ⟨_, rfl⟩
    obtain ⟨u, hu⟩ : ∃ u, (wds n).getD k 0 = u := ⟨_, rfl⟩
    rw [ht] at hnx l2 et
    rw [hu] at hcell l1 ul et
    have HOS := Lh (HO.out.set k (t % 4294967296))
    have HNX := Lh hnx
    have k1 : IntKind.u64.wrap (u : Int) = (u : Int) := IntWalk.u64_in _ (by omega)
    have k2 : IntKind.u64.wrap ((u : Int) * (x : Int)) = (u : Int) * (x : Int) := IntWalk.u64_in _ (by
     have : ((u * x : Nat) : Int) = (u : Int) * (x : Int) := Int.natCast_mul u x
     omega)
    have k3 : IntKind.u64.wrap ((q : Int) + (u : Int) * (x : Int)) = (t : Int) := by
     have : ((u * x : Nat) : Int) = (u : Int) * (x : Int) := Int.natCast_mul u x
     rw [IntWalk.u64_in _ (by omega)]
     omega
    have hk1 : (k : Int) < (N : Int) := by omega
    rw [show ((t % 4294967296 : Nat) : Int) = (t : Int) % 4294967296 by omega] at HOS
    clear hkl hnx l1 l2 ul ql et ht hu
    go_wp2
    go_roundw
    case rel => exact ⟨k + 1, _, t / 4294967296, by go_num, by go_num, by omega, HOS, HNX, hbw.setCell hBg _⟩
    case measure => simp [intOf]; omega
   ·have hkN : k = N := by omega
    have hT2 : TpT (wds n) x y (wds n).length S q := by rw [HN.out, ← hkN]; exact HT.out
    have HF := Lh (hT2.fin HX0.out)
    have hql := HT.out.low
    have hSl := HT.out.len
    have hSW := HT.out.ws
    by_cases hq0 : q = 0
    ·rw [if_pos hq0] at HF
     have b0 : ((q : Int) == 0) = true := by rw [hq0]; rfl
     clear hT2 hql hSl hSW hq0 hkN
     go_wp2
     go_ret
     exact ⟨_, rfl, by rw [← HF.out]; exact HO.out, hbw⟩
    ·rw [if_neg hq0] at HF
     have b0 : ((q : Int) == 0) = false := by simp; omega
     have k1 : IntKind.u32.wrap (q : Int) = (q : Int) := IntWalk.u32_in _ (by omega)
     have HSL := Lh (show (N + 1) * 4 ≤ 140737488355328 ∧ N + 1 ≤ maxLen ∧ S.length = N from by unfold maxLen; rw [hSl, HN.out]; omega)
     have hbs := hbw.size
     have hon : wr.ownsRow B 129 1 (.slice (some ⟨g, 0, none⟩) N cap) N (S.map fun u => Value.int .u32 (u : Nat)) := by
      have := HO.out
      unfold OwnW at this
      rw [HSL.out.2.2] at this
      exact this
     have HON := Lh hon
     clear hT2 hql hSl hSW hq0 hkN hon
     go_wp2_with (at_builtin; refine wpList_append_own _ rfl _ _ 121 rfl B 129 i0 (.int .u32 0) 1 4 Tryz.underlying121 hi hz0 hz1 hz2 rfl (by decide) _ _ _ rfl (World.ownsRow.alloc (w := wr) HON.out _) ⟨wr.heap.size, 0, none⟩ 1 1 [.int .u32 (q : Nat)] rfl rfl ?c1 ?c2 ?c3 ?c4 ?c5 ?_)
     case c1 => exact (cell_one_new _ _ _)
     case c2 => simp [Value.oneCell']
     case c3 => exact HSL.out.2.1
     case c4 => exact HSL.out.1
     case c5 => simp; omega
     intro v' w2 hown hgr _
     rw [← HSL.out.2.2] at hown
     have HO2 := Lh (OwnW.snoc hown)
     have hbb : Below B w w2 := (hbw.alloc (by omega) _).grown hgr (by simp; omega) (fun j hj => (World.ownsRow.lt HO.out j hj).1)
     clear hown hgr
     go_wp2
     go_ret
     exact ⟨_, rfl, by rw [← HF.out]; exact HO2.out, hbb⟩
theorem Sv {B C : Nat} {l : List Nat} {v : Value} {w : World} (h : OwnW C l v w) (hB : B ≤ C) : OwnW B l v w :=
 ⟨h.1, h.2.imp id (fun ⟨g, cap, cur, e, h1, r⟩ => ⟨g, cap, cur, e, Nat.le_trans hB h1, r⟩)⟩
structure SmT (a : List Nat) (d i : Nat) (S : List Nat) (r : Nat) : Prop where
 len : S.length = a.length
 ws : Ws S
 sum : val (S.drop i) * d + r = val (a.drop i)
 low : r < d
theorem SmT.start (a : List Nat) {d : Nat} (hd : 0 < d) : SmT a d a.length (List.replicate a.length 0) 0 :=
 ⟨List.length_replicate, Ws.zeros _, by rw [List.drop_of_length_le (by rw [List.length_replicate]; exact Nat.le_refl _), List.drop_of_length_le (Nat.le_refl _)]; simp [val], hd⟩
theorem SmT.next {a : List Nat} {d i : Nat} {S : List Nat} {r : Nat} (h : SmT a d (i + 1) S r) (ha : Ws a) (hi : i < a.length) (hd : d < 4294967296) :
  (r * 4294967296 + a.getD i 0) / d < 4294967296 ∧ r * 4294967296 + a.getD i 0 < 18446744073709551616 ∧ SmT a d i (S.set i ((r * 4294967296 + a.getD i 0) / d)) ((r * 4294967296 + a.getD i 0) % d) := by
 obtain ⟨h1, h2, h4, h5⟩ := h
 have hx := ha.getD i
 have hd0 : 0 < d := by omega
 have hq : (r * 4294967296 + a.getD i 0) / d < 4294967296 := by
  rw [Nat.div_lt_iff_lt_mul hd0]
  have : (r + 1) * 4294967296 ≤ d * 4294967296 := Nat.mul_le_mul_right _ h5
  omega
 refine ⟨hq, by omega, by rw [List.length_set]; exact h1, h2.set hq, ?_, Nat.mod_lt _ hd0⟩
 rw [Ci _ i (by rw [List.length_set]; omega), Bb (by omega), Ci a i hi, List.drop_set, if_pos (by omega)]
 have e := Nat.mod_add_div (r * 4294967296 + a.getD i 0) d
 generalize (r * 4294967296 + a.getD i 0) / d = q at *
 generalize (r * 4294967296 + a.getD i 0) % d = z at *
 generalize val (S.drop (i + 1)) = V at *
 rw [← h4]
 grind
theorem SmT.fin {a : List Nat} {d : Nat} {S : List Nat} {r : Nat} (h : SmT a d 0 S r) : val S = val a / d ∧ r = val a % d := by
 obtain ⟨h1, h2, h4, h5⟩ := h
 rw [List.drop_zero, List.drop_zero] at h4
 have e1 : val a / d = val S := by
  rw [← h4, Nat.add_comm, Nat.add_mul_div_right _ _ (by omega), Nat.div_eq_of_lt h5, Nat.zero_add]
 have e2 := Nat.mod_add_div (val a) d
 rw [e1, Nat.mul_comm] at e2
 exact ⟨e1.symm, by omega⟩
theorem Aa3 (A : Option Addr) (n c d : Nat) (a : List Nat) (w : World) (hn : a.length = n) (hm : n ≤ 1024) (h : RW w w.heap.size A a) (hd : d < 4294967296) (hd0 : 0 < d) :
  Cp 237 #[.slice A n c, .int .u32 d] w (fun e w' => ∃ v2, e = .returned (.tuple #[v2, .int .u32 (val a % d : Nat)]) ∧ OwnW w.heap.size (wds (val a / d)) v2 w' ∧ Below w.heap.size w w') := by
 have hmk := run_make_row' (P := Tryz.prog) 121 129 (.int .u32 0) 4 Tryz.underlying121 Ed rfl .i64 .i64 n (by omega) (by omega) w
 have HROW := Lh (Row.made w n)
 have HBL := Lh (show Below w.heap.size w (w.alloc (.cells (madeCells #[.int .u32 0] n) 129)) from (Below.refl _ _).alloc (Nat.le_refl _) _)
 have HA := Lh h
 have HN := Lh hn
 have HD := Lh hd
 have HD0 := Lh hd0
 have hn1 : (n : Int) ≤ 1024 := by omega
 have kd : IntKind.u64.wrap (d : Int) = (d : Int) := IntWalk.u64_in _ (by omega)
 have d0 : ((d : Int) == 0) = false := by simp; omega
 have d1 : ¬ (d : Int) = 0 := by omega
 have HST := Lh (show SmT a d n (List.replicate n 0) 0 from by rw [← hn]; exact SmT.start a hd0)
 clear h hn hm hd hd0
 go_enter Tryz.func237, Tryz.ntmps237
 go_wp2
 clear hmk
 go_loopw [7, 8] (fun rv iv wr => ∃ (k : Nat) (Q : List Nat) (r : Nat), iv = .int .i64 ((k : Int) - 1) ∧ rv = .int .u64 (r : Nat) ∧ k ≤ n ∧ Hid (Row wr w.heap.size Q) ∧ Hid (SmT a d k Q r) ∧ Below w.heap.size w wr) (fun _ iv _ => (intOf iv + 1).toNat)
 case atStart => exact ⟨n, _, 0, by first | rfl | go_num, rfl, Nat.le_refl _, HROW, HST, HBL.out⟩
 case round =>
  obtain ⟨k, Q, r, rfl, rfl, hk, HR, HT, hbw⟩ := hrel
  have hQl : Q.length = n := by rw [HT.out.len, HN.out]
  by_cases h0 : k = 0
  ·subst h0
   obtain ⟨f1, f2⟩ := HT.out.fin
   have hlt := HR.out.lt
   have C1 := Lh ((Bk (some ⟨w.heap.size, 0, none⟩) n n Q wr.heap.size wr hQl (Nat.le_refl _) (by omega) ((HR.out.rw0 HT.out.ws).more hlt)))
   rw [Bg HT.out.ws, f1] at C1
   have k1 : IntKind.u32.wrap (r : Int) = (r : Int) := IntWalk.u32_in _ (by have := HT.out.low; have := HD.out; omega)
   have HF2 := Lh f2
   clear f1 f2 hlt hQl
   go_wp2_with fail
   refine C1.out.mono ?_
   rintro e w2 ⟨v2, rfl, ho2, b2⟩
   have H2 := Lh (Sv ho2 hbw.size)
   have H5 := Lh (Aa hbw b2)
   obtain ⟨A2, c2, hv2, _, _⟩ := ho2.sl (Ax _)
   subst hv2
   clear ho2 b2 C1
   go_wp2
   go_ret2
   exact ⟨_, congrArg (fun z : Nat => Ending.returned (.tuple #[.slice A2 (wds (val a / d)).length c2, .int .u32 (z : Int)])) HF2.out, H2.out, H5.out⟩
  ·obtain ⟨j, rfl⟩ : ∃ j, k = j + 1 := ⟨k - 1, by omega⟩
   rw [show (((j + 1 : Nat) : Int) - 1) = (j : Int) by omega]
   have hja : j < a.length := by rw [HN.out]; omega
   obtain ⟨e2, e3, hnx⟩ := HT.out.next HA.out.1 hja HD.out
   obtain ⟨ab, ao, rfl, hab, hca⟩ := HA.out.2 (by omega)
   have hcl := hca j _ (getD_some hja)
   rw [← hbw.cell (p := ⟨ab, ao + j, none⟩) hab] at hcl
   have hcell := HR.out.cell j (by rw [hQl]; omega)
   have hfz := HR.out.frozen j
   have hx := HA.out.1.getD j
   obtain ⟨x, hxe⟩ : ∃ x, a.getD j 0 = x := ⟨_, rfl⟩
   rw [hxe] at hcl e2 e3 hnx hx
   obtain ⟨t, ht⟩ : ∃ t, r * 4294967296 + x = t := ⟨_, rfl⟩
   obtain ⟨U, hU⟩ : ∃ U, r * 4294967296 = U := ⟨_, rfl⟩
   have hor := N1 r x hx
   rw [ht] at e2 e3 hnx hor
   rw [hU] at ht hor
   have k1 : IntKind.u64.wrap ((r : Int) * 4294967296) = (U : Int) := by rw [IntWalk.u64_in _ (by omega)]; omega
   have k2 : IntKind.u64.wrap (x : Int) = (x : Int) := IntWalk.u64_in _ (by omega)
   have k3 : bits BinOp.or IntKind.u64 (U : Int) (x : Int) = (t : Int) := by rw [E8 U x (by omega) (by omega), hor]
   obtain ⟨q, hq⟩ : ∃ q, t / d = q := ⟨_, rfl⟩
   obtain ⟨z, hz⟩ : ∃ z, t % d = z := ⟨_, rfl⟩
   rw [hq] at e2
   rw [hq, hz] at hnx
   have hzl : z < 4294967296 := by rw [← hz]; exact Nat.lt_trans (Nat.mod_lt _ HD0.out) HD.out
   have k4 : IntKind.u64.wrap ((t : Int) / (d : Int)) = (q : Int) := by rw [← Int.natCast_ediv, hq]; exact IntWalk.u64_in _ (by omega)
   have k5 : (t : Int) / (d : Int) = (q : Int) := by rw [← Int.natCast_ediv, hq]
   have k6 : (t : Int) % (d : Int) = (z : Int) := by rw [← Int.natCast_emod, hz]
   have k7 : IntKind.u32.wrap (q : Int) = (q : Int) := IntWalk.u32_in _ (by omega)
   have k8 : IntKind.u64.wrap (q : Int) = (q : Int) := IntWalk.u64_in _ (by omega)
   have k9 : IntKind.u64.wrap (z : Int) = (z : Int) := IntWalk.u64_in _ (by omega)
   have HSET := Lh (HR.out.set j q)
   have HNX := Lh hnx
   have hjn : (j : Int) < (n : Int) := by omega
   clear e2 e3 hnx hja hx hxe hq hz h0 hca hQl ht hU hor hzl hab
   go_wp2
   go_roundw
   case rel => exact ⟨j, _, z, by go_num, by rw [k6], by omega, HSET, HNX, hbw.setCell (Nat.le_refl _) _⟩
   case measure => simp [intOf]
theorem OwnW.below {B : Nat} {l : List Nat} {v : Value} {w w' : World} (h : OwnW B l v w) (hb : Below w.heap.size w w') : OwnW B l v w' := by
 refine World.ownsRow.kept (row := none) h ⟨hb.os, hb.tape, hb.output, hb.size, fun k hk _ => hb.block k hk⟩ ?_
 cases v.ownBlock <;> simp
theorem Tp {v : Nat} (h : Am v = false) : (wds v).length ≤ 1024 := by
 unfold Am at h
 have := of_decide_eq_false h
 omega
theorem Lf {v u : Nat} (h : u ≤ v) (hu : Am u = true) : Am v = true := by
 unfold Am at hu ⊢
 have h1 := of_decide_eq_true hu
 have h2 := Bh (n := u) (k := (wds v).length) (Nat.lt_of_le_of_lt h (Fu v))
 exact decide_eq_true (by omega)
theorem Kd (v u : Nat) : (wds (v + u)).length ≤ max (wds v).length (wds u).length + 1 := by
 refine Bh ?_
 have h1 := Fu v
 have h2 := Fu u
 have h3 : 4294967296 ^ (wds v).length ≤ 4294967296 ^ max (wds v).length (wds u).length := Nat.pow_le_pow_right (by omega) (by omega)
 have h4 : 4294967296 ^ (wds u).length ≤ 4294967296 ^ max (wds v).length (wds u).length := Nat.pow_le_pow_right (by omega) (by omega)
 have := Lm (max (wds v).length (wds u).length)
 omega
theorem Fe (v u : Nat) : (wds (v * u)).length ≤ (wds v).length + (wds u).length := by
 refine Bh ?_
 rw [Nat.pow_add]
 exact Nat.mul_lt_mul'' (Fu v) (Fu u)
def sv (r : Nat) (s : ByteArray) : Nat := pv r (fun i => dgt (btn s i)) s.size
structure Rest (s : ByteArray) (o : Nat) (t : ByteArray) : Prop where
 le : o ≤ s.size
 size : t.size = s.size - o
 byte : ∀ i, i < t.size → btn t i = btn s (o + i)
theorem L7 (t : ByteArray) (a b i : Nat) (hi : i < b - a) (hb : b ≤ t.size) : btn (t.extract a b) i = btn t (a + i) := by
 have h1 : i < (t.extract a b).size := by rw [ByteArray.size_extract]; omega
 rw [← Du _ i h1, ← Du t (a + i) (by omega), ByteArray.getElem_extract]
theorem Rest.all (s : ByteArray) : Rest s 0 s := ⟨Nat.zero_le _, rfl, fun i _ => by rw [Nat.zero_add]⟩
theorem Rest.next {s t : ByteArray} {o m : Nat} (h : Rest s o t) (hm : m ≤ t.size) : Rest s (o + m) (t.extract m t.size) :=
 ⟨by have := h.le; have := h.size; omega, by rw [ByteArray.size_extract, h.size]; omega, fun i hi => by
  have h1 : i < t.size - m := by rw [ByteArray.size_extract] at hi; omega
  rw [L7 t m t.size i h1 (Nat.le_refl _), h.byte _ (by omega), Nat.add_assoc]⟩
def Aak : Value → Nat
 | .string s => s.size
 | _ => 0
theorem Wi (s : ByteArray) (r : Nat) (w : World) (hs : s.size ≤ 4611686018427387903) (h2 : 2 ≤ r) (h36 : r ≤ 36) (hd : adB r s = true) :
  Cp 130 #[.string s, .int .i64 r] w (NatPost (sv r s) w) := by
 have c1 := Rb s r w hs h36
 have C2 := Lh (fun W => Aeb r W h2 h36)
 rw [hd] at c1
 have hdd : ∀ i, i < s.size → dgt (btn s i) < r := by
  unfold adB at hd
  exact of_decide_eq_true (Bool.and_eq_true _ _ ▸ hd : _ ∧ _).2
 have HD := Lh hdd
 have H2 := Lh h2
 have H36 := Lh h36
 have hr1 : ¬ (r : Int) < 2 := by omega
 have hr2 : ¬ (36 : Int) < (r : Int) := by omega
 have hs1 : (s.size : Int) ≤ 4611686018427387903 := by omega
 clear hd hdd hs h2 h36
 go_enter Tryz.func130, Tryz.ntmps130
 go_wp2_with fail
 refine c1.mono ?_
 rintro e w1 ⟨rfl, rfl⟩
 go_wp2_with fail
 refine (C2.out _).mono ?_
 rintro e w1 ⟨⟨c, p, rfl, hp, hc1, hc2, hpl⟩, rfl⟩
 have HP := Lh hp
 have HPL := Lh hpl
 have HC1 := Lh hc1
 have hc0 : (c : Int) ≤ 32 := by omega
 clear hp hpl hc1 hc2 c1 C2
 go_wp2
 go_loopw [0, 8] (fun tv av wr => ∃ (t : ByteArray) (o : Nat), tv = .string t ∧ Hid (Rest s o t) ∧ Hid (OwnW w.heap.size (wds (pv r (fun i => dgt (btn s i)) o)) av wr) ∧ Hid (Am (pv r (fun i => dgt (btn s i)) o) = false) ∧ Below w.heap.size w wr) (fun tv _ _ => Aak tv)
 case atStart => exact ⟨s, 0, rfl, Lh (Rest.all s), Lh (OwnW.nil _ _), Lh (Eo (by simp [pv])), Below.refl _ _⟩
 case round =>
  obtain ⟨t, o, rfl, HR, HO, HL, hbw⟩ := hrel
  obtain ⟨V, hV⟩ : ∃ V, pv r (fun i => dgt (btn s i)) o = V := ⟨_, rfl⟩
  rw [hV] at HO HL
  have HV := Lh hV
  have hle := Tp HL.out
  obtain ⟨A0, c0, rfl, hc0', hr0⟩ := HO.out.sl (Ax V)
  obtain ⟨L0, hL0⟩ : ∃ L, (wds V).length = L := ⟨_, rfl⟩
  have hts : (t.size : Int) ≤ 4611686018427387903 := by have := HR.out.size; omega
  by_cases h0 : t.size = 0
  ·have C1 := Lh (Gn A0 L0 c0 (wds V) wr hL0 (by omega) (by omega) hr0)
   rw [Ad] at C1
   have HFV := Lh (show V = sv r s from by
    have h1 := HR.out.size
    have h2 := HR.out.le
    rw [← HV.out]; unfold sv; congr 1; omega)
   have HL0 := Lh hL0
   rw [hL0]
   have b0 : ¬ (0 : Int) < (t.size : Int) := by omega
   clear hV hle hc0' hr0 hL0 h0
   go_wp2_with fail
   refine C1.out.mono ?_
   rintro e w2 h
   have h2 := NatPost.from_ hbw h
   rw [HFV.out] at h2
   obtain ⟨A2, n2, c2, k2, rfl, h3, h4⟩ := h2
   have H3 := Lh h3
   have H4 := Lh h4
   clear h h3 h4 C1
   go_wp2
   go_ret2
   exact ⟨A2, n2, c2, k2, rfl, H3.out, H4.out⟩
  ·obtain ⟨m, hm⟩ : ∃ m, min c t.size = m := ⟨_, rfl⟩
   have hc1 := HC1.out
   have hm0 : 0 < m := by omega
   have hmt : m ≤ t.size := by omega
   have hmc : (m = c ∧ (c : Int) ≤ (t.size : Int)) ∨ (m = t.size ∧ ¬ (c : Int) ≤ (t.size : Int)) := by omega
   have hRn := HR.out.next hmt
   have hsz : (t.extract 0 m).size = m := by rw [ByteArray.size_extract]; omega
   have hby : ∀ i, i < m → btn (t.extract 0 m) i = btn s (o + i) := fun i hi => by
    rw [L7 t 0 m i (by omega) hmt, Nat.zero_add]; exact HR.out.byte i (by omega)
   have hom : o + m ≤ s.size := hRn.le
   have hpm : r ^ m < 4294967296 := by
    have h1 : r ^ m ≤ r ^ c := Nat.pow_le_pow_right (by have := H2.out; omega) (by omega)
    have h2 := HPL.out
    rw [HP.out] at h2
    omega
   have hpm0 : 0 < r ^ m := Nat.pow_pos (by have := H2.out; omega)
   have hpv : pv r (fun i => dgt (btn (t.extract 0 m) i)) m = pv r (fun i => dgt (btn s (o + i))) m := Id (fun i hi => by rw [hby i hi])
   have C1 := Lh (fun W => show Cp 172 #[.string (t.extract 0 m), .int .i64 r] W fun e w' => e = .returned (.tuple #[.int .u32 (pv r (fun i => dgt (btn s (o + i))) m : Nat), .int .u32 (r ^ m : Nat)]) ∧ W = w' from by
    have := Aeo (t.extract 0 m) r W H36.out H2.out (by rw [hsz]; exact hpm) (fun i hi => by rw [hsz] at hi; rw [hby i hi]; exact HD.out _ (by omega))
    rw [hsz, hpv] at this
    exact this)
   have hyl : pv r (fun i => dgt (btn s (o + i))) m < 4294967296 := Nat.lt_trans (Acr (fun i hi => HD.out _ (by omega))) hpm
   have hadd := Aa1 r (fun i => dgt (btn s i)) o m
   rw [hV] at hadd
   obtain ⟨x, hx⟩ : ∃ x, r ^ m = x := ⟨_, rfl⟩
   obtain ⟨y, hy⟩ : ∃ y, pv r (fun i => dgt (btn s (o + i))) m = y := ⟨_, rfl⟩
   rw [hx] at C1 hpm hpm0 hadd
   rw [hy] at C1 hyl hadd
   have C2 := Lh (Qc w.heap.size (.slice A0 L0 c0) V x y wr (by have := HO.out; rw [hL0] at this; exact this) hbw.size hle hpm hpm0 hyl)
   obtain ⟨V2, hV2⟩ : ∃ V2, V * x + y = V2 := ⟨_, rfl⟩
   rw [hV2] at C2 hadd
   have HV2 := Lh hadd
   have l1 : (wds V2).length ≤ 1026 := by
    have h1 := Fe V x
    have h2 := Kd (V * x) y
    have h3 : (wds x).length ≤ 1 := Bh (by omega)
    have h4 : (wds y).length ≤ 1 := Bh (by omega)
    rw [hV2] at h2
    omega
   have HLE2 := Lh l1
   have HRN := Lh hRn
   have HMONO := Lh (show V2 ≤ sv r s from by rw [← hadd]; exact Np (by have := H2.out; omega) hom)
   have HM0 := Lh hm0
   have hmt1 : (m : Int) ≤ (t.size : Int) := by omega
   have b0 : (0 : Int) < (t.size : Int) := by omega
   rw [hL0]
   clear hV hle hc0' hr0 hL0 h0 hm hc1 hm0 hmt hRn hsz hby hom hpm hpm0 hpv hyl hadd hx hy hV2 l1
   rcases hmc with ⟨rfl, a1⟩ | ⟨rfl, a1⟩
   ·have e0 : min (m : Int) (t.size : Int) = (m : Int) := Int.min_eq_left a1
    go_wp2_with fail
    refine Sm (C1.out _) ?_
    go_wp2_with fail
    refine C2.out.mono ?_
    rintro e w2 ⟨v2, rfl, ho2, hb2⟩
    have hbw2 : Below w.heap.size w w2 := hbw.trans hb2
    obtain ⟨A2, c2, rfl, hc2, hr2⟩ := ho2.sl (Ax _)
    obtain ⟨L2, hL2⟩ : ∃ L, (wds V2).length = L := ⟨_, rfl⟩
    rw [hL2] at hc2 ho2 ⊢
    have C3 := Lh (Dl A2 L2 c2 (wds V2) w2 hL2 hc2 (by have := HLE2.out; omega) hr2)
    rw [Ad] at C3
    have HO2 := Lh ho2
    have hp : Below w2.heap.size w2 (lone w2 (.slice A2 L2 c2)) := (Below.refl _ _).alloc (Nat.le_refl _) _
    have HB2 := Lh (Aa hbw2 hp)
    have HO3 := Lh (ho2.below hp)
    have HL2 := Lh hL2
    clear ho2 hb2 hbw2 hc2 hr2 hL2 hp C1 C2
    cases hl : Am V2
    ·rw [hl] at C3
     have HLN := Lh hl
     clear hl
     go_wp2_with fail
     refine C3.out.mono ?_
     rintro e w3 ⟨rfl, rfl⟩
     go_wp2
     exact ⟨⟨_, _, rfl, HRN, Lh (by rw [HV2.out]; exact HO3.out), Lh (by rw [HV2.out]; exact HLN.out), HB2.out⟩, by
      have h1 := HM0.out
      have h2 := HRN.out.size
      have h3 := HRN.out.le
      have h4 := HR.out.size
      simp only [Aak]
      omega⟩
    ·rw [hl] at C3
     have HLN := Lh (Lf HMONO.out hl)
     clear hl
     go_wp2_with fail
     refine C3.out.mono ?_
     rintro e w3 ⟨rfl, rfl⟩
     go_wp2
     go_ret2
     exact NatPost.long HLN.out HB2.out
   ·have e0 : min (c : Int) (t.size : Int) = (t.size : Int) := Int.min_eq_right (by omega)
    rw [show t.extract 0 t.size = t from by simp] at C1
    rw [show t.extract t.size t.size = ByteArray.empty from by simp] at HRN
    go_wp2_with fail
    refine Sm (C1.out _) ?_
    go_wp2_with fail
    refine C2.out.mono ?_
    rintro e w2 ⟨v2, rfl, ho2, hb2⟩
    have hbw2 : Below w.heap.size w w2 := hbw.trans hb2
    obtain ⟨A2, c2, rfl, hc2, hr2⟩ := ho2.sl (Ax _)
    obtain ⟨L2, hL2⟩ : ∃ L, (wds V2).length = L := ⟨_, rfl⟩
    rw [hL2] at hc2 ho2 ⊢
    have C3 := Lh (Dl A2 L2 c2 (wds V2) w2 hL2 hc2 (by have := HLE2.out; omega) hr2)
    rw [Ad] at C3
    have HO2 := Lh ho2
    have hp : Below w2.heap.size w2 (lone w2 (.slice A2 L2 c2)) := (Below.refl _ _).alloc (Nat.le_refl _) _
    have HB2 := Lh (Aa hbw2 hp)
    have HO3 := Lh (ho2.below hp)
    have HL2 := Lh hL2
    clear ho2 hb2 hbw2 hc2 hr2 hL2 hp C1 C2
    cases hl : Am V2
    ·rw [hl] at C3
     have HLN := Lh hl
     clear hl
     go_wp2_with fail
     refine C3.out.mono ?_
     rintro e w3 ⟨rfl, rfl⟩
     go_wp2
     exact ⟨⟨_, _, rfl, HRN, Lh (by rw [HV2.out]; exact HO3.out), Lh (by rw [HV2.out]; exact HLN.out), HB2.out⟩, by
      have h1 := HM0.out
      have h2 := HRN.out.size
      have h3 := HRN.out.le
      have h4 := HR.out.size
      simp only [Aak]
      omega⟩
    ·rw [hl] at C3
     have HLN := Lh (Lf HMONO.out hl)
     clear hl
     go_wp2_with fail
     refine C3.out.mono ?_
     rintro e w3 ⟨rfl, rfl⟩
     go_wp2
     go_ret2
     exact NatPost.long HLN.out HB2.out
theorem Pg (A : Option Addr) (n c g x : Nat) (l : List Nat) (N : Nat) (W : World) (hn : l.length = n) (hm : n ≤ 1024) (h : RW W W.heap.size A l) (g1 : RW W W.heap.size (some ⟨g, 0, none⟩) [x]) (hN : (wds (val l * x)).length = N) :
  Cp 138 #[.slice A n c, .slice (some ⟨g, 0, none⟩) 1 1] W (Jo (wds (val l * x)) N W) := by
 have := Rh A (some ⟨g, 0, none⟩) n c 1 1 l [x] W hn (by omega) h rfl (by omega) g1
 rw [show val [x] = x from by simp [val]] at this
 exact this.mono fun _ _ y => y.told hN
theorem Ux (A : Option Addr) (n c g x : Nat) (l : List Nat) (N : Nat) (W : World) (hn : l.length = n) (hm : n ≤ 4096) (h : RW W W.heap.size A l) (g1 : RW W W.heap.size (some ⟨g, 0, none⟩) [x]) (hN : (wds (val l + x)).length = N) :
  Cp 137 #[.slice A n c, .slice (some ⟨g, 0, none⟩) 1 1] W (Jo (wds (val l + x)) N W) := by
 have := Fo A (some ⟨g, 0, none⟩) n c 1 1 l [x] W hn (by omega) h rfl (by omega) g1
 rw [show val [x] = x from by simp [val]] at this
 exact this.mono fun _ _ y => y.told hN
theorem Hh (W : World) (x : Nat) (hx : x < 4294967296) : RW (W.alloc (.cells #[.int .u32 (x : Int)] 129)) (W.alloc (.cells #[.int .u32 (x : Int)] 129)).heap.size (some ⟨W.heap.size, 0, none⟩) [x] := (Adu W x hx).more (by simp)
theorem Ch {w W : World} (o : Obj) (h : Below w.heap.size w W) : Below w.heap.size w (W.alloc o) := h.alloc h.size _
theorem Agp (s : ByteArray) (r : Nat) (w : World) (hs : s.size ≤ 4611686018427387903) (h2 : 2 ≤ r) (h36 : r ≤ 36) (hd : ∀ i, i < s.size → dgt (btn s i) < r) (h0 : 0 < s.size) :
  Cp 195 #[.string s, .int .i64 r] w (NatPost (sv r s) w) := by
 have HD := Lh hd
 have H2 := Lh h2
 have H36 := Lh h36
 have hr1 : ¬ (r : Int) < 2 := by omega
 have hr2 : ¬ (36 : Int) < (r : Int) := by omega
 have hs1 : (s.size : Int) ≤ 4611686018427387903 := by omega
 have hs0 : ((s.size : Int) == 0) = false := by rw [beq_eq_false_iff_ne]; omega
 have kr : IntKind.u32.wrap (r : Int) = (r : Int) := IntWalk.u32_in _ (by omega)
 clear hd hs h2 h36 h0
 go_enter Tryz.func195, Tryz.ntmps195
 go_wp2
 go_loopw [6] (fun iv wr => ∃ k : Nat, iv = .int .i64 (k : Nat) ∧ k ≤ s.size ∧ w = wr) (fun iv _ => s.size - (intOf iv).toNat)
 case atStart => exact ⟨0, rfl, Nat.zero_le _, rfl⟩
 case round =>
  obtain ⟨k, rfl, hk, rfl⟩ := hrel
  by_cases hlt : k < s.size
  ·have C1 := Lh (fun W => show Cp 108 #[.int .u8 ((s[k]'hlt).toNat : Nat)] W fun e w' => e = .returned (.int .i64 (dgz (btn s k) : Nat)) ∧ W = w' from by
    rw [Du s k hlt]; exact Cv _ W (Fy s k))
   have hk1 : (k : Int) < (s.size : Int) := by omega
   have hd := HD.out k hlt
   rw [Ib H36.out hd] at C1
   obtain ⟨d, hde⟩ : ∃ d, dgt (btn s k) = d := ⟨_, rfl⟩
   rw [hde] at C1 hd
   have a1 : ¬ (r : Int) ≤ (d : Int) := by omega
   clear hde hd
   go_wp2_with fail
   refine Sm (C1.out _) ?_
   go_wp2
   go_roundw
   case rel => exact ⟨k + 1, by go_num, by omega, trivial⟩
   case measure => simp [intOf]; omega
  ·have hks : k = s.size := by omega
   subst hks
   clear hlt hk
   go_wp2
   go_loopw [7, 8] (fun av iv wr => ∃ o : Nat, iv = .int .i64 (o : Nat) ∧ o ≤ s.size ∧ Hid (Sl wr wr.heap.size av (wds (pv r (fun i => dgt (btn s i)) o))) ∧ Hid (Am (pv r (fun i => dgt (btn s i)) o) = false) ∧ Below w.heap.size w wr) (fun _ iv _ => s.size - (intOf iv).toNat)
   case atStart => exact ⟨0, rfl, Nat.zero_le _, Lh (Sl.nil _ _ _), Lh (Eo (by simp [pv])), Below.refl _ _⟩
   case round =>
    obtain ⟨o, rfl, ho, HS, HL, hbw⟩ := hrel
    obtain ⟨V, hV⟩ : ∃ V, pv r (fun i => dgt (btn s i)) o = V := ⟨_, rfl⟩
    rw [hV] at HS HL
    have HV := Lh hV
    obtain ⟨A0, c0, rfl, hc0, hr0⟩ := HS.out
    obtain ⟨L0, hL0⟩ : ∃ L, (wds V).length = L := ⟨_, rfl⟩
    have hle := Tp HL.out
    rw [hL0] at hc0 hle ⊢
    by_cases hlt : o < s.size
    ·have hd := HD.out o hlt
     have hx1 : (o : Int) < (s.size : Int) := by omega
     have C1 := Lh (fun W => show Cp 108 #[.int .u8 ((s[o]'hlt).toNat : Nat)] W fun e w' => e = .returned (.int .i64 (dgt (btn s o) : Nat)) ∧ W = w' from by
      rw [Du s o hlt, ← Ib H36.out hd]; exact Cv _ W (Fy s o))
     have hpv : pv r (fun i => dgt (btn s i)) (o + 1) = V * r + dgt (btn s o) := by rw [← hV]; rfl
     have hd36 := Oq (btn s o)
     obtain ⟨d, hde⟩ : ∃ d, dgt (btn s o) = d := ⟨_, rfl⟩
     rw [hde] at C1 hpv hd36
     have kd : IntKind.u32.wrap (d : Int) = (d : Int) := IntWalk.u32_in _ (by omega)
     obtain ⟨L1, hL1⟩ : ∃ L, (wds (V * r)).length = L := ⟨_, rfl⟩
     obtain ⟨L2, hL2⟩ : ∃ L, (wds (V * r + d)).length = L := ⟨_, rfl⟩
     have l1 : L1 ≤ 1025 := by
      have h1 := Fe V r
      have h3 : (wds r).length ≤ 1 := Bh (by have := H36.out; omega)
      omega
     have l2 : L2 ≤ 1026 := by
      have h1 := Kd (V * r) d
      have h3 : (wds d).length ≤ 1 := Bh (by omega)
      omega
     have K1 := Lh (fun W g (hb : Below wr.heap.size wr W) (g1 : RW W W.heap.size (some ⟨g, 0, none⟩) [r]) => show Cp 138 #[.slice A0 L0 c0, .slice (some ⟨g, 0, none⟩) 1 1] W (Jo (wds (V * r)) L1 W) from by
      have := Pg A0 L0 c0 g r (wds V) L1 W hL0 hle (hr0.step hb) g1 (by rw [Ad]; exact hL1)
      rw [Ad] at this; exact this)
     have K2 := Lh (fun W A2 c2 g (r2 : RW W W.heap.size A2 (wds (V * r))) (g1 : RW W W.heap.size (some ⟨g, 0, none⟩) [d]) => show Cp 137 #[.slice A2 L1 c2, .slice (some ⟨g, 0, none⟩) 1 1] W (Jo (wds (V * r + d)) L2 W) from by
      have := Ux A2 L1 c2 g d (wds (V * r)) L2 W hL1 (by omega) r2 g1 (by rw [Ad]; exact hL2)
      rw [Ad] at this; exact this)
     have HLR := Lh (fun W => Hh W r (by have := H36.out; omega))
     have HLD := Lh (fun W => Hh W d (by omega))
     have HPV := Lh hpv
     have HL2 := Lh hL2
     clear hpv hL2
     clear hV hL0 hle hc0 hr0 hd hde hd36 hL1 l1
     go_wp2
     go_region_held3 (fun w' => True) (trivial) (first | (go_at_call 138; refine (K1.out _ _ (Ae ((Below.refl _ _).alloc (Nat.le_refl _) _) 1) ((HLR.out wr).drewN 1)).mono ?_; rintro e w2 ⟨A2, c2, rfl, ⟨hc2, r2⟩, b2⟩) | (go_at_call 108; refine (C1.out _).mono ?_; rintro e w' ⟨rfl, rfl⟩) | (go_at_call 137; refine (K2.out _ _ _ _ (r2.step ((Below.refl _ _).alloc (Nat.le_refl _) _)) (HLD.out _)).mono ?_; rintro e w3 ⟨A3, c3, rfl, ⟨hc3, r3⟩, b3⟩))
     all_goals
      have B2 : Below w.heap.size w w2 := Aa (Ae (hbw.alloc hbw.size _) 1) b2
      have B3 : Below w.heap.size w w3 := Aa (B2.alloc B2.size _) b3
      clear r2 b2 b3 B2 hc2 K1 K2
      have C5 := Lh (Ix A3 L2 c3 (wds (V * r + d)) w3.heap.size w3 HL2.out hc3 (by omega) r3)
      rw [Ad, ← HPV.out] at C5
      have HSL := Lh (fun (w4 : World) (b4 : Below w3.heap.size w3 w4) => (⟨A3, c3, by rw [HL2.out], by rw [HL2.out]; exact hc3, r3.step b4⟩ : Sl w4 w4.heap.size (.slice A3 L2 c3) (wds (V * r + d))))
      have HB3 := Lh B3
      clear r3 hc3 B3
      cases hl : Am (pv r (fun i => dgt (btn s i)) (o + 1))
      ·rw [hl] at C5
       have HLN := Lh hl
       clear hl
       go_wp2_with fail
       refine C5.out.mono ?_
       rintro e w4 ⟨rfl, b4⟩
       have HS4 := Lh (HSL.out w4 b4)
       have HB4 := Lh (Aa HB3.out b4)
       clear b4 C5
       go_wp2
       go_roundw
       case rel => exact ⟨o + 1, by go_num, by omega, Lh (by rw [HPV.out]; exact HS4.out), HLN, HB4.out⟩
       case measure => simp [intOf]; omega
      ·rw [hl] at C5
       have HLN := Lh (Lf (v := sv r s) (Np (by have := H2.out; omega) (by omega)) hl)
       clear hl
       go_wp2_with fail
       refine C5.out.mono ?_
       rintro e w4 ⟨rfl, b4⟩
       have HB4 := Lh (Aa HB3.out b4)
       clear b4 C5
       go_wp2
       go_ret2
       exact NatPost.long HLN.out HB4.out
    ·have hos : o = s.size := by omega
     have HF := Lh (show NatPost (sv r s) w (.returned (.tuple #[.slice A0 L0 c0, .int .i64 0])) wr from by
      have e : V = sv r s := by rw [← HV.out, hos]; rfl
      rw [← e]
      exact NatPost.ok HL.out hL0.symm hc0 hr0 hbw)
     have b0 : ¬ (o : Int) < (s.size : Int) := by omega
     clear hos hlt hc0 hr0 hL0 hle hV
     go_wp2
     go_ret2
     exact HF.out
def Aol : Value → Nat
 | .slice _ n _ => n
 | _ => 0
theorem Own8.len {B : Nat} {l : List Nat} {v : Value} {w : World} (h : Own8 B l v w) : Aol v = l.length := by
 rcases h.2 with ⟨rfl, h1⟩ | ⟨g, cap, cur, rfl, _⟩
 ·rw [h1]; rfl
 ·rfl
def Xz (r n : Nat) (t : ByteArray) : Prop := (n = 0 ∧ bl t = [48]) ∨ (0 < n ∧ ∃ D, Ds r D ∧ dv r D = n ∧ bl t = ((Fv D).map dch).reverse)
def Aqh (r n : Nat) (w : World) (e : Ending) (w' : World) : Prop := ∃ t, e = .returned (.tuple #[.string t, .int .i64 0]) ∧ Xz r n t ∧ Below w.heap.size w w'
abbrev Aqv : ByteArray := ⟨#[48, 49, 50, 51, 52, 53, 54, 55, 56, 57, 97, 98, 99, 100, 101, 102, 103, 104, 105, 106, 107, 108, 109, 110, 111, 112, 113, 114, 115, 116, 117, 118, 119, 120, 121, 122]⟩
theorem Ahs : ∀ d : Fin 36, (Aqv[d.val]'(by have := d.isLt; exact this)).toNat = dch d.val := by decide
theorem Am6 (d : Nat) (h : d < 36) : ((Aqv[d]'h).toNat : Int) = (dch d : Nat) := congrArg Int.ofNat (Ahs ⟨d, h⟩)
structure TextT (r n c v k : Nat) (D : List Nat) : Prop where
 ds : Ds r D
 sum : dv r D + r ^ D.length * v = n
 len : D.length = c * k
 low : 2 ^ k * v ≤ n
theorem TextT.bound {r n c v k : Nat} {D : List Nat} (h : TextT r n c v k D) (hv : 0 < v) {K : Nat} (hc : c ≤ 32) (hn : n < 2 ^ K) (hK : K ≤ 32768) : c * (k + 1) ≤ 1048576 := by
 have h1 : 2 ^ k ≤ n := Nat.le_trans (Nat.le_mul_of_pos_right _ hv) h.low
 have h2 : k < K := (Nat.pow_lt_pow_iff_right (a := 2) (by omega)).1 (Nat.lt_of_le_of_lt h1 hn)
 exact Nat.le_trans (Nat.mul_le_mul hc (show k + 1 ≤ 32768 by omega)) (by omega)
theorem Aem {n K : Nat} (h : (wds n).length ≤ 1024) (hK : 32768 ≤ K) : n < 2 ^ K := by
 have h1 := Fu n
 rw [show (4294967296 : Nat) = 2 ^ 32 from rfl, ← Nat.pow_mul] at h1
 exact Nat.lt_of_lt_of_le h1 (Nat.pow_le_pow_right (by omega) (by omega))
structure RtxT (r n v k : Nat) (D : List Nat) : Prop where
 base : TextT r n 1 v k D
 last : v = 0 → Fv D = D
theorem RtxT.next {r n v k : Nat} {D : List Nat} (h : RtxT r n v k D) (hr : 2 ≤ r) (hv : 0 < v) : RtxT r n (v / r) (k + 1) (D ++ [v % r]) := by
 obtain ⟨⟨h1, h2, h3, h4⟩, _⟩ := h
 have hm : v % r < r := Nat.mod_lt _ (by omega)
 have e := Nat.mod_add_div v r
 refine ⟨⟨h1.snoc hm, ?_, by rw [List.length_append, h3]; simp, ?_⟩, fun h0 => ?_⟩
 ·rw [Ac9, List.length_append, List.length_singleton, Nat.pow_succ, ← h2]
  generalize v % r = z at *
  generalize v / r = x at *
  rw [← e]
  grind
 ·have h5 : 2 * (v / r) ≤ v := by
   have h6 : v / r * 2 ≤ v / r * r := Nat.mul_le_mul_left _ hr
   have h7 := Nat.div_mul_le_self v r
   omega
  rw [Nat.pow_succ, Nat.mul_assoc]
  exact Nat.le_trans (Nat.mul_le_mul_left _ h5) h4
 ·refine Nz (.inr ?_)
  rw [List.getLast?_append, List.getLast?_singleton]
  simp
  rw [h0, Nat.mul_zero, Nat.add_zero] at e
  omega
theorem OwnW.grown {C : Nat} {l : List Nat} {v bv : Value} {w w' : World} (h : OwnW C l v w) (hgr : w.grownBy w' bv.ownBlock) (hb : ∀ j, bv.ownBlock = some j → j < C) : OwnW C l v w' := by
 refine World.ownsRow.kept h hgr ?_
 cases hv : v.ownBlock with
 | none => exact .inl rfl
 | some b =>
  right
  intro e
  have h1 := (World.ownsRow.lt h b hv).1
  have h2 := hb b e.symm
  omega
theorem Alz (A : Option Addr) (N c0 r : Nat) (l : List Nat) (w : World) (hn : l.length = N) (hc : N ≤ c0) (hm : N ≤ 35184372088832) (h : RW w w.heap.size A l) (h2 : 2 ≤ r) (h36 : r ≤ 36) (hl : Am (val l) = false) (hv : 0 < val l) :
  Cp 210 #[.slice A N c0, .int .i64 r] w (Aqh r (val l) w) := by
 obtain ⟨i0, hi, hz0, hz1, hz2⟩ := info_parts Aoo
 have c1 := Ix A N c0 l w.heap.size w hn hc hm h
 rw [hl] at c1
 have C2 := Lh (fun W (hb : Below w.heap.size w W) => Bk A N c0 l W.heap.size W hn hc hm (h.step hb))
 rw [Bg h.1] at C2
 have hlen := Tp hl
 obtain ⟨n, hne⟩ : ∃ n, val l = n := ⟨_, rfl⟩
 rw [hne] at C2 hlen hv ⊢
 obtain ⟨K, hK⟩ : ∃ K, K = 32768 := ⟨_, rfl⟩
 have HN := Lh (Aem hlen (K := K) (by omega))
 have HK := Lh (show K ≤ 32768 by omega)
 obtain ⟨M, hM⟩ : ∃ M, (wds n).length = M := ⟨_, rfl⟩
 rw [hM] at hlen
 have HM := Lh hM
 have hM0 : 0 < M := by
  rcases Nat.eq_zero_or_pos M with h0 | h0
  ·rw [h0] at hM
   have := Ad n
   rw [List.eq_nil_of_length_eq_zero hM] at this
   simp [val] at this
   omega
  ·exact h0
 have HV := Lh hv
 have H2 := Lh h2
 have H36 := Lh h36
 have hr1 : ¬ (r : Int) < 2 := by omega
 have hr2 : ¬ (36 : Int) < (r : Int) := by omega
 have hM1 : ((M : Int) == 0) = false := by rw [beq_eq_false_iff_ne]; omega
 have hM2 : (M : Int) ≤ 1024 := by omega
 have kr : IntKind.u32.wrap (r : Int) = (r : Int) := IntWalk.u32_in _ (by omega)
 have HST := Lh (show RtxT r n n 0 [] from ⟨⟨Ds.nil r, by simp [dv], by simp, by simp⟩, fun e => by omega⟩)
 clear h hn hc hm hl hne hM hv h2 h36 hM0 hK
 go_enter Tryz.func210, Tryz.ntmps210
 go_wp2_with fail
 refine c1.mono ?_
 rintro e w1 ⟨rfl, b1⟩
 go_wp2_with fail
 refine (C2.out _ b1).mono ?_
 rintro e w2 ⟨v2, rfl, ho2, b2⟩
 have HO2 := Lh (Sv ho2 b1.size)
 have HB2 := Lh (Aa b1 b2)
 obtain ⟨A2, c2, hv2, hc2, _⟩ := ho2.sl (Ax _)
 subst hv2
 rw [HM.out] at HO2 hc2 ⊢
 clear ho2 b1 b2 c1 C2
 go_wp2
 go_loopw [0, 6] (fun av bv wr => ∃ (v k m : Nat) (D : List Nat) (A : Option Addr) (ca : Nat), av = .slice A m ca ∧ Hid ((wds v).length = m) ∧ (m : Int) ≤ 1024 ∧ Hid (OwnW w.heap.size (wds v) (.slice A m ca) wr) ∧ Hid (Own8 w.heap.size (D.map dch) bv wr) ∧ Hid (RtxT r n v k D) ∧ Hid (D.length ≤ 1048576) ∧ Below w.heap.size w wr) (fun _ bv _ => 2097152 - Aol bv)
 case atStart => exact ⟨n, 0, M, [], A2, c2, rfl, HM, hM2, HO2, Lh (Own8.nil _ _), HST, Lh (by simp), HB2.out⟩
 case round =>
  obtain ⟨v, k, m, D, A3, ca, rfl, HMV, hm1, HA, HO, HT, HDL, hbw⟩ := hrel
  by_cases h0 : m = 0
  ·have hv0 : v = 0 := by
    have h1 := HMV.out
    rw [h0] at h1
    have h3 := Ad v
    rw [List.eq_nil_of_length_eq_zero h1] at h3
    exact h3.symm
   have hsum := HT.out.base.sum
   rw [hv0, Nat.mul_zero, Nat.add_zero] at hsum
   have hD0 : 0 < (D.map dch).length := by
    rw [List.length_map]
    cases D with
    | nil => have := HV.out; simp [dv] at hsum; omega
    | cons => simp
   obtain ⟨g2, cb, rfl, hcb, hg2, _, _⟩ := HO.out.row hD0
   obtain ⟨L, hL⟩ : ∃ L, (D.map dch).length = L := ⟨_, rfl⟩
   have hLl : L ≤ 1048576 := by rw [← hL, List.length_map]; exact HDL.out
   have HQ := Lh (fun (t : ByteArray) (ht : t = Ab (D.map dch).reverse) => show Xz r n t from .inr ⟨HV.out, D, HT.out.base.ds, hsum, by
    rw [ht, Aj (fun u hu => by
     rw [List.mem_reverse, List.mem_map] at hu
     obtain ⟨d, hd, rfl⟩ := hu
     have := Aov (Nat.lt_of_lt_of_le (HT.out.base.ds d hd) H36.out)
     omega), HT.out.last hv0]⟩)
   have HOL := Lh (show Own8 w.heap.size (D.map dch) (.slice (some ⟨g2, 0, none⟩) L cb) wr from by have := HO.out; rw [hL] at this; exact this)
   have HRV := Lh (RvT.start hL)
   have HLN := Lh hL
   have hL1 : (L : Int) ≤ 1048576 := by omega
   subst h0
   rw [hL]
   clear hsum hD0 hcb hL hLl hv0 HO
   go_wp2
   go_loopw [9] (fun iv wr' => ∃ (j : Nat) (S : List Nat), iv = .int .i64 (j : Nat) ∧ 2 * j ≤ L + 1 ∧ Hid (Own8 w.heap.size S (.slice (some ⟨g2, 0, none⟩) L cb) wr') ∧ Hid (RvT (D.map dch) L j S) ∧ Below w.heap.size w wr') (fun iv _ => L - (intOf iv).toNat)
   case atStart => exact ⟨0, _, rfl, by omega, HOL, HRV, hbw⟩
   case round =>
    obtain ⟨j, S, rfl, hj, HI, HT2, hbi⟩ := hrel
    by_cases hlt : 2 * j + 1 < L
    ·obtain ⟨m, hm⟩ : ∃ m, L - 1 - j = m := ⟨_, rfl⟩
     have hkm : j < m := by omega
     obtain ⟨e1, e2, hnx⟩ := HT2.out.next hm.symm hkm
     have hSl := HT2.out.len
     obtain ⟨k1, f1⟩ := HI.out.cell j (by omega)
     obtain ⟨k2, f2⟩ := HI.out.cell m (by omega)
     rw [e1] at k1
     rw [e2] at k2
     obtain ⟨x, hx⟩ : ∃ x, (D.map dch).getD j 0 = x := ⟨_, rfl⟩
     obtain ⟨y, hy⟩ : ∃ y, (D.map dch).getD m 0 = y := ⟨_, rfl⟩
     rw [hx] at k1 hnx
     rw [hy] at k2 hnx
     have HI2 := Lh ((HI.out.set j y).set m x)
     have HNX := Lh hnx
     have a2 : (m : Int) < (L : Nat) := by omega
     have a3 : (j : Int) < (L : Nat) := by omega
     have a4 : (j : Int) < (L : Int) / 2 := by omega
     have w1 : IntKind.i64.wrap ((L : Int) - 1) = (L : Int) - 1 := IntWalk.i64_in _ (by omega)
     have w2' : IntKind.i64.wrap ((L : Int) - 1 - (j : Int)) = (m : Int) := by rw [IntWalk.i64_in _ (by omega)]; omega
     have hmi : (L : Int) - 1 - (j : Int) = (m : Int) := by omega
     have HKM := Lh (show m + j + 1 = L from by omega)
     clear hm e1 e2 hnx hSl hx hy hlt hj
     go_wp2
     go_region
     go_wp2
     go_roundw
     case rel => exact ⟨j + 1, _, by go_num, by have := HKM.out; omega, Lh HI2.out.drew, HNX, ((hbi.setCell (p := ⟨g2, j, none⟩) hg2 _).setCell (p := ⟨g2, m, none⟩) hg2 _).drew⟩
     case measure => simp [intOf]; omega
    ·have HZ := Lh (HT2.out.fin HLN.out hlt)
     have a4 : ¬ (j : Int) < (L : Int) / 2 := by omega
     have ho := HI.out
     rw [HZ.out] at ho
     have hcv := Xr ho
     clear hlt ho hj
     go_wp2
     go_ret2
     exact ⟨_, rfl, HQ.out _ rfl, hbi⟩
  ·have hv0 : 0 < v := by
    rcases Nat.eq_zero_or_pos v with h1 | h1
    ·rw [h1] at HMV
     have := HMV.out
     simp [Aku] at this
     omega
    ·exact h1
   have hbd := HT.out.base.bound hv0 (by omega) HN.out HK.out
   have hnx := HT.out.next H2.out hv0
   obtain ⟨A4, c4, he, hc4, hr4⟩ := HA.out.sl (Ax v)
   injection he with e1 e2 e3
   subst e1
   subst e3
   have C1 := Lh (Aa3 A3 m ca r (wds v) wr HMV.out (by omega) hr4 (by have := H36.out; omega) (by have := H2.out; omega))
   rw [Ad] at C1
   have hd : v % r < r := Nat.mod_lt _ (by have := H2.out; omega)
   have hEl : D.length + 1 ≤ 1048576 := by rw [HT.out.base.len]; omega
   obtain ⟨d, hde⟩ : ∃ d, v % r = d := ⟨_, rfl⟩
   obtain ⟨z, hze⟩ : ∃ z, v / r = z := ⟨_, rfl⟩
   have hlz : (wds z).length ≤ m := by
    rw [← hze, ← HMV.out]
    exact Bh (Nat.lt_of_le_of_lt (Nat.div_le_self _ _) (Fu v))
   rw [hde] at C1 hnx hd
   rw [hze] at C1 hnx
   have hd36 : d < 36 := Nat.lt_of_lt_of_le hd H36.out
   have kd := Am6 d hd36
   have HNX := Lh hnx
   have HEL := Lh hEl
   have HSL := Lh (show (D.map dch).length + 1 ≤ 140737488355328 ∧ (D.map dch).length + 1 ≤ maxLen from by rw [List.length_map]; unfold maxLen; omega)
   obtain ⟨m2, hm2⟩ : ∃ m2, (wds z).length = m2 := ⟨_, rfl⟩
   have HM2 := Lh hm2
   have hm2l : (m2 : Int) ≤ 1024 := by omega
   have hdi : (d : Int) < 36 := by omega
   have hd0 : (0 : Int) ≤ (d : Int) := by omega
   have hm0 : (0 : Int) < (m : Int) := by omega
   have HLE := Lh hbw.size
   clear hv0 hbd hnx e2 hc4 hr4 hd hEl hde hze hlz hm2 h0
   go_wp2_with fail
   refine C1.out.mono ?_
   rintro e w3 ⟨v3, rfl, ho3, hb3⟩
   have HO3 := Lh ho3
   have HB3 := Lh (Aa hbw hb3)
   have HS3 := Lh hb3.size
   have HE := Lh (HO.out.below hb3)
   obtain ⟨A5, c5, hv5, hc5, _⟩ := ho3.sl (Ax _)
   subst hv5
   rw [HM2.out] at HO3 hc5 ⊢
   clear ho3 hb3 C1
   go_wp2_with (at_builtin; refine wpList_append_own _ rfl _ _ 66 rfl w.heap.size 5 i0 (.int .u8 0) 1 1 Tryz.underlying66 hi hz0 hz1 hz2 rfl (by decide) _ _ _ rfl (World.ownsRow.alloc HE.out _) ⟨w3.heap.size, 0, none⟩ 1 1 [.int .u8 (dch d : Nat)] rfl rfl ?c1 ?c2 ?c3 ?c4 ?c5 ?_)
   case c1 => exact (cell_one_new _ _ _)
   case c2 => simp [Value.oneCell']
   case c3 => exact HSL.out.2
   case c4 => have := HSL.out.1; omega
   case c5 => have := HB3.out.size; simp; omega
   intro v' w5 hown hgr _
   have hown2 : w5.ownsRow w.heap.size 5 1 v' ((D.map dch).length + 1) ((D.map dch).map (fun u => Value.int .u8 (u : Nat)) ++ [Value.int .u8 (dch d : Nat)]) := by rw [List.map_map, List.length_map]; exact hown
   have HO5 := Lh (show Own8 w.heap.size ((D ++ [d]).map dch) v' w5 from by rw [List.map_append]; exact Own8.snoc (L := D.map dch) (u := dch d) hown2)
   have hbs := HB3.out.size
   have hbb : Below w.heap.size w w5 := (HB3.out.alloc (by omega) _).grown hgr (by simp; omega) (fun i hi => (World.ownsRow.lt HE.out i hi).1)
   have HA5 := Lh (Sv (OwnW.grown (World.ownsRow.alloc HO3.out _) hgr (fun j hj => (World.ownsRow.lt HO.out j hj).2)) HLE.out)
   have hbl1 := HO.out.len
   have hbl2 := HO5.out.len
   rw [List.length_map] at hbl1 hbl2
   have HLL := Lh (And.intro hbl1 hbl2)
   clear hown hown2 hgr hbs hbl1 hbl2
   go_wp2
   exact ⟨⟨z, k + 1, m2, _, _, _, rfl, HM2, hm2l, HA5, HO5, HNX, Lh (by rw [List.length_append]; exact HEL.out), hbb⟩, by
    have h1 := HLL.out.1
    have h3 := HLL.out.2
    have h4 := HEL.out
    rw [List.length_append, List.length_singleton] at h3
    omega⟩
def Sn (p : Int) : Prop := p < 2 ∨ 36 < p
def Adz (p : Int) (v : Nat) (t : ByteArray) (k : Nat) : Prop :=
 (Sn p ∧ t = ByteArray.empty ∧ k = 1) ∨ (¬ Sn p ∧ Am v = true ∧ t = ByteArray.empty ∧ k = 3) ∨ (¬ Sn p ∧ Am v = false ∧ Xz p.toNat v t ∧ k = 0)
def Aqb (p : Int) (v : Nat) (w : World) (e : Ending) (w' : World) : Prop := ∃ t k, e = .returned (.tuple #[.string t, .int .i64 (k : Nat)]) ∧ Adz p v t k ∧ Below w.heap.size w w'
theorem Afx : bl ⟨#[48]⟩ = [48] := rfl
theorem Aeh (A : Option Addr) (N c0 : Nat) (p : Int) (l : List Nat) (w : World) (hn : l.length = N) (hc : N ≤ c0) (hm : N ≤ 35184372088832) (h : RW w w.heap.size A l) :
  Cp 210 #[.slice A N c0, .int .i64 p] w (Aqb p (val l) w) := by
 by_cases hb : Sn p
 ·have HF := Lh (show Adz p (val l) ByteArray.empty 1 from .inl ⟨hb, rfl, rfl⟩)
  have hb2 : p < 2 ∨ (¬ p < 2 ∧ 36 < p) := by unfold Sn at hb; omega
  clear hn hc hm h hb
  rcases hb2 with h1 | ⟨h1, h2⟩
  all_goals
   go_enter Tryz.func210, Tryz.ntmps210
   go_wp2
   go_ret2
   exact ⟨_, 1, rfl, HF.out, Below.refl _ _⟩
 ·have h1 : ¬ p < 2 := by unfold Sn at hb; omega
  have h2 : ¬ 36 < p := by unfold Sn at hb; omega
  cases hl : Am (val l)
  ·rcases Nat.eq_zero_or_pos (val l) with h0 | h0
   ·have HF := Lh (show Adz p (val l) ⟨#[48]⟩ 0 from .inr (.inr ⟨hb, hl, .inl ⟨h0, Afx⟩, rfl⟩))
    have c1 := Ix A N c0 l w.heap.size w hn hc hm h
    rw [hl] at c1
    have C2 := Lh (fun W (hb : Below w.heap.size w W) => Apw A N c0 l 0 W hn hc hm (h.step hb) (by rw [Bz h0]; rfl))
    clear hn hc hm h hb hl h0
    go_enter Tryz.func210, Tryz.ntmps210
    go_wp2_with fail
    refine c1.mono ?_
    rintro e w1 ⟨rfl, b1⟩
    go_wp2_with fail
    refine (C2.out _ b1).mono ?_
    rintro e w2 ⟨A2, c2, rfl, _, b2⟩
    have HB := Lh (Aa b1 b2)
    clear b1 b2 C2
    go_wp2
    go_ret2
    exact ⟨_, 0, rfl, HF.out, HB.out⟩
   ·obtain ⟨r, rfl⟩ : ∃ r : Nat, p = (r : Int) := ⟨p.toNat, by omega⟩
    refine (Alz A N c0 r l w hn hc hm h (by omega) (by omega) hl h0).mono fun e w' x => ?_
    obtain ⟨t, he, hq, hbw⟩ := x
    exact ⟨t, 0, he, .inr (.inr ⟨hb, hl, by rw [Int.toNat_natCast]; exact hq, rfl⟩), hbw⟩
  ·have HF := Lh (show Adz p (val l) ByteArray.empty 3 from .inr (.inl ⟨hb, hl, rfl, rfl⟩))
   have c1 := Ix A N c0 l w.heap.size w hn hc hm h
   rw [hl] at c1
   clear hn hc hm h hb hl
   go_enter Tryz.func210, Tryz.ntmps210
   go_wp2_with fail
   refine c1.mono ?_
   rintro e w1 ⟨rfl, b1⟩
   go_wp2
   go_ret2
   exact ⟨_, 3, rfl, HF.out, b1⟩
end
section
def Bs (c : Nat) : Bool := decide (48 ≤ c) && decide (c ≤ 57)
theorem Bo {c : Nat} : Bs c = true ↔ 48 ≤ c ∧ c ≤ 57 := by unfold Bs; simp
theorem Vy {c : Nat} : Bs c = false ↔ ¬ (48 ≤ c ∧ c ≤ 57) := by unfold Bs; simp
theorem Ih {c : Nat} (h : Bs c = true) : dgt c = c - 48 ∧ dgt c < 10 := by
 have := Bo.1 h
 unfold dgt
 rw [if_pos this]
 exact ⟨rfl, by omega⟩
theorem Aat {c : Nat} : dgt c < 10 ↔ Bs c = true := by
 constructor
 ·intro h
  unfold dgt at h
  by_cases h1 : 48 ≤ c ∧ c ≤ 57
  ·exact Bo.2 h1
  ·rw [if_neg h1] at h
   split at h
   ·omega
   ·split at h <;> omega
 ·intro h; exact (Ih h).2
def Es (l : List Nat) : Bool := l.head? == some 45
def Bj (l : List Nat) : List Nat := if l.head? = some 45 ∨ l.head? = some 43 then l.tail else l
def Ah (l : List Nat) : List Nat := l.takeWhile Bs
def Al (l : List Nat) : List Nat := l.dropWhile Bs
theorem M9 (l : List Nat) : Ah l ++ Al l = l := List.takeWhile_append_dropWhile
theorem Ce : ∀ (l : List Nat), ∀ c ∈ Ah l, Bs c = true := by
 intro l
 induction l with
 | nil => intro c hc; simp [Ah] at hc
 | cons d r ih =>
  intro c hc
  unfold Ah at hc ih
  rw [List.takeWhile_cons] at hc
  cases hd : Bs d
  ·rw [hd] at hc; simp at hc
  ·rw [hd] at hc
   simp only [if_true] at hc
   rcases List.mem_cons.1 hc with rfl | h
   ·exact hd
   ·exact ih c h
theorem Cn (l : List Nat) : (Ah l).length + (Al l).length = l.length := by
 have := congrArg List.length (M9 l)
 rw [List.length_append] at this
 exact this
def Qi (n c : Nat) : Nat := if n < 1099511627776 then n * 10 + (c - 48) else n
def amt (f : List Nat) : Nat := f.foldl Qi 0
theorem Gm (f : List Nat) (c : Nat) : amt (f ++ [c]) = Qi (amt f) c := by unfold amt; rw [List.foldl_append]; rfl
theorem Hm : ∀ (f : List Nat), (∀ c ∈ f, Bs c = true) → amt f < 10995116277760 := by
 intro f hf
 have main : ∀ (l : List Nat) (a : Nat), a < 10995116277760 → (∀ c ∈ l, Bs c = true) → l.foldl Qi a < 10995116277760 := by
  intro l
  induction l with
  | nil => intro a h _; exact h
  | cons c r ih =>
   intro a h hl
   refine ih (Qi a c) ?_ (fun d hd => hl d (by simp [hd]))
   have := Bo.1 (hl c (by simp))
   unfold Qi
   split <;> omega
 exact main f 0 (by omega) hf
def F4 (l : List Nat) : Bool := (l.head? == some 101 || l.head? == some 69) && !(Ah (Bj l.tail)).isEmpty
def Lo (l : List Nat) : Int := if Es l.tail = true then -(amt (Ah (Bj l.tail)) : Int) else (amt (Ah (Bj l.tail)) : Int)
def Qd (l : List Nat) : List Nat := Al (Bj l.tail)
def exV (l : List Nat) : Int := if F4 l = true then Lo l else 0
def exR (l : List Nat) : List Nat := if F4 l = true then Qd l else l
theorem Amb (l : List Nat) : -10995116277760 < Lo l ∧ Lo l < 10995116277760 := by
 have := Hm (Ah (Bj l.tail)) (Ce _)
 unfold Lo
 split <;> omega
theorem Zs (l : List Nat) : -10995116277760 < exV l ∧ exV l < 10995116277760 := by
 have := Amb l
 unfold exV
 split <;> omega
def Ka (t : List Nat) : Bool := t.head? == some 46
def dW (l : List Nat) : List Nat := Ah l
def dF (l : List Nat) : List Nat := if Ka (Al l) = true then Ah (Al l).tail else []
def dB (l : List Nat) : Bool := !((dW l).isEmpty && (dF l).isEmpty)
def dT (l : List Nat) : List Nat := if Ka (Al l) = true then Al (Al l).tail else Al l
def dX (l : List Nat) : Int := exV (dT l)
def dR (l : List Nat) : List Nat := exR (dT l)
def num (r : Nat) (f : List Nat) : Nat := pv r (fun i => dgt (f.getD i 0)) f.length
def dV (l : List Nat) : Nat := Bf (num 10 (dW l ++ dF l)) (dX l - (dF l).length)
/-! ### Numbers of digits -/
theorem Ady (r : Nat) : num r [] = 0 := rfl
theorem E7 (r : Nat) (f g : List Nat) : num r (f ++ g) = num r f * r ^ g.length + num r g := by
 unfold num
 rw [List.length_append, Aa1]
 congr 1
 ·congr 1
  refine Id (fun i hi => ?_)
  rw [List.getD_eq_getElem?_getD, List.getElem?_append_left hi, ← List.getD_eq_getElem?_getD]
 ·refine Id (fun i hi => ?_)
  rw [List.getD_eq_getElem?_getD, List.getElem?_append_right (by omega), Nat.add_sub_cancel_left, ← List.getD_eq_getElem?_getD]
theorem Nl (r c : Nat) : num r [c] = dgt c := by
 unfold num
 show pv r _ 1 = _
 simp [pv]
theorem Fp (r c : Nat) (f : List Nat) : num r (c :: f) = dgt c * r ^ f.length + num r f := by
 rw [show c :: f = [c] ++ f from rfl, E7, Nl]
theorem Aaj {r : Nat} {f : List Nat} (h : ∀ c ∈ f, dgt c < r) : num r f < r ^ f.length := by
 unfold num
 refine Acr (fun i hi => ?_)
 rw [List.getD_eq_getElem?_getD, List.getElem?_eq_getElem hi]
 exact h _ (List.getElem_mem hi)
theorem Aj9 : dgt 48 = 0 := by decide
theorem Ld (r : Nat) : ∀ k : Nat, num r (List.replicate k 48) = 0
 | 0 => rfl
 | k + 1 => by rw [List.replicate_succ, Fp, Aj9, Ld r k]; simp
theorem Cr (r : Nat) : ∀ f : List Nat, num r (f.dropWhile (· == 48)) = num r f
 | [] => rfl
 | c :: f => by
  by_cases h : c = 48
  ·subst h
   rw [List.dropWhile_cons_of_pos (by simp), Cr r f, Fp, Aj9]
   simp
  ·rw [List.dropWhile_cons_of_neg (by simpa using h)]
theorem Cd (f : List Nat) : (f.dropWhile (· == 48)).head? ≠ some 48 := by
 intro h
 have := List.head?_dropWhile_not (p := (· == 48)) f
 rw [h] at this
 simp at this
theorem Akx {f : List Nat} {c : Nat} (hd : ∀ x ∈ c :: f, Bs x = true) (hc : c ≠ 48) : 10 ^ f.length ≤ num 10 (c :: f) := by
 have h1 := Ih (hd c (by simp))
 have h2 := Bo.1 (hd c (by simp))
 rw [Fp]
 have h3 : 1 * 10 ^ f.length ≤ dgt c * 10 ^ f.length := Nat.mul_le_mul_right _ (by omega)
 omega
theorem Xv {f : List Nat} (hd : ∀ x ∈ f, Bs x = true) : num 10 f = 0 ↔ f.dropWhile (· == 48) = [] := by
 rw [← Cr 10 f]
 constructor
 ·intro h
  cases hf : f.dropWhile (· == 48) with
  | nil => rfl
  | cons c g =>
   exfalso
   rw [hf] at h
   have h1 : c ≠ 48 := by
    have := Cd f
    rw [hf] at this
    intro e
    exact this (by rw [e]; rfl)
   have h2 := Akx (f := g) (c := c) (fun x hx => hd x (by
    have : x ∈ f.dropWhile (· == 48) := by rw [hf]; exact hx
    exact (List.dropWhile_sublist _).subset this)) h1
   have := Aq g.length
   omega
 ·intro h; rw [h]; rfl
end
section
def ldz (f : List Nat) : List Nat := f.dropWhile (· == 48)
def trz (f : List Nat) : List Nat := (f.reverse.dropWhile (· == 48)).reverse
theorem Ff {f : List Nat} {c : Nat} (h : c ∈ ldz f) : c ∈ f := (List.dropWhile_sublist _).subset h
theorem Acf {f : List Nat} {c : Nat} (h : c ∈ trz f) : c ∈ f := by
 unfold trz at h
 rw [List.mem_reverse] at h
 exact List.mem_reverse.1 ((List.dropWhile_sublist _).subset h)
theorem Dc : ∀ g : List Nat, ∃ z, g = List.replicate z 48 ++ g.dropWhile (· == 48)
 | [] => ⟨0, rfl⟩
 | c :: g => by
  by_cases h : c = 48
  ·subst h
   obtain ⟨z, hz⟩ := Dc g
   refine ⟨z + 1, ?_⟩
   rw [List.dropWhile_cons_of_pos (by simp), List.replicate_succ, List.cons_append, ← hz]
  ·exact ⟨0, by rw [List.dropWhile_cons_of_neg (by simpa using h)]; rfl⟩
theorem Li (f : List Nat) : ∃ z, f = trz f ++ List.replicate z 48 := by
 obtain ⟨z, hz⟩ := Dc f.reverse
 refine ⟨z, ?_⟩
 have h := congrArg List.reverse hz
 rw [List.reverse_reverse, List.reverse_append, List.reverse_replicate] at h
 exact h
theorem Aiw (f : List Nat) : (trz f).getLast? ≠ some 48 := by
 unfold trz
 rw [List.getLast?_reverse]
 exact Cd f.reverse
theorem Adb (f : List Nat) : num 10 f = num 10 (trz f) * 10 ^ (f.length - (trz f).length) := by
 obtain ⟨z, hz⟩ := Li f
 have hl : f.length - (trz f).length = z := by
  have := congrArg List.length hz
  rw [List.length_append, List.length_replicate] at this
  omega
 have h2 := congrArg (num 10) hz
 rw [E7, Ld, List.length_replicate, Nat.add_zero] at h2
 rw [hl, h2]
theorem S8 (f : List Nat) : (trz f).length ≤ f.length := by
 obtain ⟨z, hz⟩ := Li f
 have := congrArg List.length hz
 rw [List.length_append] at this
 omega
theorem V9 {f : List Nat} (hd : ∀ x ∈ f, Bs x = true) {c : Nat} (hc : c ∈ f) (h : c ≠ 48) : 0 < num 10 f := by
 rcases Nat.eq_zero_or_pos (num 10 f) with h0 | h0
 ·exfalso
  have h1 := (Xv hd).1 h0
  obtain ⟨z, hz⟩ := Dc f
  rw [h1, List.append_nil] at hz
  rw [hz] at hc
  exact h (List.eq_of_mem_replicate hc)
 ·exact h0
theorem Hq {g : List Nat} (hd : ∀ x ∈ g, Bs x = true) (h0 : g ≠ []) (hh : g.head? ≠ some 48) : 10 ^ (g.length - 1) ≤ num 10 g := by
 cases g with
 | nil => exact absurd rfl h0
 | cons c r =>
  have := Akx (f := r) (c := c) hd (fun e => hh (by rw [e]; rfl))
  simpa using this
theorem Hf {g : List Nat} (hd : ∀ x ∈ g, Bs x = true) : num 10 g < 10 ^ g.length := Aaj (fun c hc => (Ih (hd c hc)).2)
theorem Rq {g : List Nat} {k : Nat} (hk : 0 < k) : (g.take k).head? = g.head? := by
 cases g with
 | nil => simp
 | cons c r =>
  obtain ⟨j, rfl⟩ : ∃ j, k = j + 1 := ⟨k - 1, by omega⟩
  rw [List.take_succ_cons]
  rfl
theorem Ap6 : dgt 49 = 1 := by decide
theorem X5 {g : List Nat} {k : Nat} {e : Int} (hd : ∀ x ∈ g, Bs x = true) (hh : g.head? ≠ some 48) (hk : 769 ≤ k) (hl : k < g.length) (hpt : (g.length : Int) + e ≤ 768) (hc : ∃ c ∈ g.drop k, c ≠ 48) :
  Bf (num 10 g) e = Bf (num 10 (g.take k ++ [49])) (e + (g.length - k : Nat) - 1) := by
 obtain ⟨p, hp⟩ : ∃ p, g.take k = p := ⟨_, rfl⟩
 obtain ⟨q, hq⟩ : ∃ q, g.drop k = q := ⟨_, rfl⟩
 have hg : g = p ++ q := by rw [← hp, ← hq, List.take_append_drop]
 have lp : p.length = k := by rw [← hp, List.length_take]; omega
 have lq : q.length = g.length - k := by rw [← hq, List.length_drop]
 have dp : ∀ x ∈ p, Bs x = true := fun x hx => hd x (by rw [hg]; exact List.mem_append_left _ hx)
 have dq : ∀ x ∈ q, Bs x = true := fun x hx => hd x (by rw [hg]; exact List.mem_append_right _ hx)
 have hhp : p.head? ≠ some 48 := by rw [← hp, Rq (by omega)]; exact hh
 have p0 : p ≠ [] := fun e => by rw [e] at lp; simp at lp; omega
 rw [hq] at hc
 obtain ⟨c, hc1, hc2⟩ := hc
 have q0 := V9 dq hc1 hc2
 have h1 := Hq dp p0 hhp
 rw [lp] at h1
 have h2 := Hf dp
 rw [lp] at h2
 have h3 := Hf dq
 rw [hp, E7, Nl, Ap6, ← lq]
 have h4 := Akw (p := num 10 p) (r := q.length) (q := num 10 q) (k := k) (e := e) hk h1 h2 h3 q0 (by rw [hg, List.length_append, lp] at hpt; omega)
 rw [← E7, ← hg] at h4
 rw [h4]
 rfl
/-! ### The program's way -/
theorem Agm {f : List Nat} {e : Int} (h : trz (ldz f) = []) : Bf (num 10 f) e = 0 := by
 have h1 := Adb (ldz f)
 rw [h, Ady, Nat.zero_mul] at h1
 have h2 : num 10 (ldz f) = num 10 f := Cr 10 f
 rw [← h2, h1]
 exact Ri e
theorem Ag8 {f : List Nat} {e : Int} (hd : ∀ x ∈ f, Bs x = true) (h : ((ldz f).length : Int) + e < -323) : Bf (num 10 f) e = 0 := by
 have h2 : num 10 (ldz f) = num 10 f := Cr 10 f
 rw [← h2]
 exact R8 (Hf (fun x hx => hd x (Ff hx))) (by omega)
theorem Afr {f : List Nat} {e : Int} (hd : ∀ x ∈ f, Bs x = true) (h0 : trz (ldz f) ≠ []) (h : 309 < ((ldz f).length : Int) + e) : Bf (num 10 f) e = 9218868437227405312 := by
 have h2 : num 10 (ldz f) = num 10 f := Cr 10 f
 have h3 : ldz f ≠ [] := fun e => h0 (by rw [e]; rfl)
 have h4 : 0 < (ldz f).length := List.length_pos_iff.2 h3
 rw [← h2]
 exact Ru (Hq (fun x hx => hd x (Ff hx)) h3 (Cd f)) (by omega)
theorem Oa {f : List Nat} (e : Int) : Bf (num 10 f) e = Bf (num 10 (trz (ldz f))) ((ldz f).length + e - (trz (ldz f)).length) := by
 have h2 : num 10 (ldz f) = num 10 f := Cr 10 f
 have h3 := S8 (ldz f)
 rw [← h2, Adb (ldz f), Ej]
 exact congrArg (Bf _) (by omega)
theorem Pu {f : List Nat} (h : f.head? ≠ some 48) : (trz f).head? ≠ some 48 := by
 obtain ⟨z, hz⟩ := Li f
 cases ht : trz f with
 | nil => simp
 | cons c r =>
  rw [ht] at hz
  rw [hz] at h
  exact h
theorem Agk {f : List Nat} {e : Int} (hd : ∀ x ∈ f, Bs x = true) (hl : 800 < (trz (ldz f)).length) (h : ((ldz f).length : Int) + e ≤ 309) : Bf (num 10 f) e = Bf (num 10 ((trz (ldz f)).take 800 ++ [49])) ((ldz f).length + e - 801) := by
 rw [Oa]
 have h3 := S8 (ldz f)
 have hdh : ∀ x ∈ trz (ldz f), Bs x = true := fun x hx => hd x (Ff (Acf hx))
 have key := X5 (g := trz (ldz f)) (k := 800) (e := (ldz f).length + e - (trz (ldz f)).length) hdh (Pu (Cd f)) (by omega) hl (by omega) ?_
 ·rw [key]
  exact congrArg (Bf _) (by omega)
 ·have hne : trz (ldz f) ≠ [] := fun e => by rw [e] at hl; simp at hl
  obtain ⟨c, hc⟩ : ∃ c, (trz (ldz f)).getLast? = some c := ⟨_, List.getLast?_eq_some_getLast hne⟩
  refine ⟨c, ?_, fun e => Aiw (ldz f) (by rw [← e]; exact hc)⟩
  have h5 : ((trz (ldz f)).drop 800).getLast? = some c := by
   rw [List.getLast?_drop, if_neg (by omega)]
   exact hc
  exact List.mem_of_getLast? h5
/-! ### The reference's way -/
theorem Ad3 {f : List Nat} {e : Int} (hd : ∀ x ∈ f, Bs x = true) (h0 : ldz f ≠ []) (h : 400 < ((ldz f).length : Int) + e) : Bf (num 10 f) e = 9218868437227405312 := by
 have h2 : num 10 (ldz f) = num 10 f := Cr 10 f
 have h4 : 0 < (ldz f).length := List.length_pos_iff.2 h0
 rw [← h2]
 exact Ru (Hq (fun x hx => hd x (Ff hx)) h0 (Cd f)) (by omega)
theorem Afk {f : List Nat} {e : Int} (hd : ∀ x ∈ f, Bs x = true) (hl : 820 < (ldz f).length) (h : ((ldz f).length : Int) + e ≤ 400) (hc : ∃ c ∈ (ldz f).drop 810, c ≠ 48) : Bf (num 10 f) e = Bf (num 10 ((ldz f).take 810 ++ [49])) (e + ((ldz f).length - 810 : Nat) - 1) := by
 have h2 : num 10 (ldz f) = num 10 f := Cr 10 f
 rw [← h2]
 exact X5 (fun x hx => hd x (Ff hx)) (Cd f) (by omega) (by omega) (by omega) hc
theorem Agx {f : List Nat} {e : Int} (hc : ∀ c ∈ (ldz f).drop 810, c = 48) : Bf (num 10 f) e = Bf (num 10 ((ldz f).take 810)) (e + ((ldz f).length - 810 : Nat)) := by
 have h2 : num 10 (ldz f) = num 10 f := Cr 10 f
 rw [← h2, ← Ej]
 have h3 : num 10 (ldz f) = num 10 ((ldz f).take 810 ++ (ldz f).drop 810) := by rw [List.take_append_drop]
 have h4 : (ldz f).drop 810 = List.replicate ((ldz f).length - 810) 48 := by
  rw [← List.length_drop]
  exact List.eq_replicate_of_mem hc
 rw [h3, E7, h4, Ld, List.length_replicate, Nat.add_zero]
end
section
def hxA (l : List Nat) : Bool := l.head? == some 48 && (l.tail.head? == some 120 || l.tail.head? == some 88)
def Nt (c : Nat) : Bool := decide (dgt c < 16)
def hxB (l : List Nat) : Bool := hxA l && !(l.drop 2).isEmpty && (l.drop 2).all Nt
def F2 (r : Nat) (f : List Nat) : Nat := Bf (num r f) 0
def infL : List Nat := [73, 110, 102, 105, 110, 105, 116, 121]
def Q0 (l : List Nat) : Bool := infL.isPrefixOf l
def sgW (s : Bool) (r : Nat) : Nat := if s = true then 9223372036854775808 + r else r
def Mm : Nat := 9221120237041090560
def H7 (l : List Nat) : Nat :=
 if l = [] then 0 else if hxB l = true then F2 16 (l.drop 2)
 else if Bj l = infL then sgW (Es l) 9218868437227405312
 else if dB (Bj l) = true ∧ dR (Bj l) = [] then sgW (Es l) (dV (Bj l)) else Mm
def dgq (r : Nat) (c : Nat) : Bool := decide (dgt c < r)
/-! ### Bytes of no number -/
def Cc (c : Nat) : Nat := if c = 0 then 1 else c
theorem Ag9 {c : Nat} (h : c ≠ 0) : Cc c = c := if_neg h
theorem Acg {c k : Nat} (hk : 2 ≤ k) : Cc c = k ↔ c = k := by unfold Cc; split <;> omega
theorem Xi (c : Nat) : Bs (Cc c) = Bs c := by unfold Cc; split <;> (try subst c) <;> rfl
theorem Aco (c : Nat) : dgt (Cc c) = dgt c := by unfold Cc; split <;> (try subst c) <;> rfl
theorem Ac6 {l : List Nat} (h : ∀ c ∈ l, c ≠ 0) : l.map Cc = l := by
 induction l with
 | nil => rfl
 | cons c r ih => rw [List.map_cons, Ag9 (h c (by simp)), ih (fun d hd => h d (by simp [hd]))]
theorem In (l : List Nat) : Ah (l.map Cc) = Ah l := by
 have h1 : Ah (l.map Cc) = (Ah l).map Cc := by
  unfold Ah
  rw [List.takeWhile_map]
  congr 1
  congr 1
  funext c
  exact Xi c
 rw [h1]
 refine Ac6 (fun c hc => ?_)
 have := Bo.1 (Ce l c hc)
 omega
theorem Io (l : List Nat) : Al (l.map Cc) = (Al l).map Cc := by
 unfold Al
 rw [List.dropWhile_map]
 congr 1
 congr 1
 funext c
 exact Xi c
theorem Ok (l : List Nat) (k : Nat) (hk : 2 ≤ k) : ((l.map Cc).head? = some k) = (l.head? = some k) := by
 cases l with
 | nil => rfl
 | cons c r =>
  simp only [List.map_cons, List.head?_cons, Option.some.injEq]
  exact propext (Acg hk)
theorem E6 (l : List Nat) (k : Nat) (hk : 2 ≤ k) : ((l.map Cc).head? == some k) = (l.head? == some k) := by
 rw [Bool.eq_iff_iff, beq_iff_eq, beq_iff_eq]
 exact iff_of_eq (Ok l k hk)
theorem Gc (l : List Nat) : (l.map Cc).tail = l.tail.map Cc := by cases l <;> rfl
theorem J9 (l : List Nat) : Bj (l.map Cc) = (Bj l).map Cc := by
 unfold Bj
 simp only [Ok l 45 (by omega), Ok l 43 (by omega)]
 split
 ·exact Gc l
 ·rfl
theorem V8 (l : List Nat) : Es (l.map Cc) = Es l := E6 l 45 (by omega)
theorem V7 (l : List Nat) : F4 (l.map Cc) = F4 l := by
 unfold F4
 rw [E6 l 101 (by omega), E6 l 69 (by omega), Gc, J9, In]
theorem Aim (l : List Nat) : Lo (l.map Cc) = Lo l := by
 unfold Lo
 rw [Gc, J9, In, V8]
theorem Ak3 (l : List Nat) : Qd (l.map Cc) = (Qd l).map Cc := by
 unfold Qd
 rw [Gc, J9, Io]
theorem An9 (l : List Nat) : exV (l.map Cc) = exV l := by unfold exV; rw [V7, Aim]
theorem An4 (l : List Nat) : exR (l.map Cc) = (exR l).map Cc := by
 unfold exR
 rw [V7, Ak3]
 split <;> rfl
theorem Vk (l : List Nat) : Ka (l.map Cc) = Ka l := E6 l 46 (by omega)
theorem Akf (l : List Nat) : dW (l.map Cc) = dW l := In l
theorem Ahb (l : List Nat) : dF (l.map Cc) = dF l := by unfold dF; rw [Io, Vk, Gc, In]
theorem Aps (l : List Nat) : dB (l.map Cc) = dB l := by unfold dB; rw [Akf, Ahb]
theorem Akz (l : List Nat) : dT (l.map Cc) = (dT l).map Cc := by
 unfold dT
 rw [Io, Vk, Gc, Io]
 split <;> rfl
theorem Ao5 (l : List Nat) : dX (l.map Cc) = dX l := by unfold dX; rw [Akz, An9]
theorem Ao2 (l : List Nat) : dR (l.map Cc) = (dR l).map Cc := by unfold dR; rw [Akz, An4]
theorem Ao0 (l : List Nat) : dV (l.map Cc) = dV l := by unfold dV; rw [Akf, Ahb, Ao5]
theorem Anc (l : List Nat) : (l.map Cc = []) = (l = []) := by cases l <;> simp
theorem Afg (l : List Nat) : (l.map Cc).isEmpty = l.isEmpty := by cases l <;> rfl
theorem drop_one (l : List Nat) (k : Nat) : (l.map Cc).drop k = (l.drop k).map Cc := by rw [List.map_drop]
theorem Amd (l : List Nat) : hxA (l.map Cc) = hxA l := by
 unfold hxA
 rw [E6 l 48 (by omega), Gc, E6 l.tail 120 (by omega), E6 l.tail 88 (by omega)]
theorem An7 (l : List Nat) : (l.map Cc).all Nt = l.all Nt := by
 rw [List.all_map]
 congr 1
 funext c
 show decide (dgt (Cc c) < 16) = _
 rw [Aco]
 rfl
theorem Mc (r : Nat) : ∀ l : List Nat, num r (l.map Cc) = num r l
 | [] => rfl
 | c :: l => by rw [List.map_cons, Fp, Fp, Aco, Mc r l, List.length_map]
theorem Anf (l : List Nat) : hxB (l.map Cc) = hxB l := by
 unfold hxB
 rw [Amd, drop_one, Afg, An7]
theorem Ag7 (r : Nat) (l : List Nat) : F2 r (l.map Cc) = F2 r l := by unfold F2; rw [Mc]
theorem Apv {l m : List Nat} (hm : ∀ c ∈ m, 2 ≤ c) : (l.map Cc = m) = (l = m) := by
 refine propext ⟨fun h => ?_, fun h => ?_⟩
 ·induction l generalizing m with
  | nil => exact h
  | cons c r ih =>
   cases m with
   | nil => simp at h
   | cons d s =>
    rw [List.map_cons, List.cons.injEq] at h
    rw [(Acg (hm d (by simp))).1 h.1, ih (fun x hx => hm x (by simp [hx])) h.2]
 ·rw [h]
  exact Ac6 (fun c hc => by have := hm c hc; omega)
theorem An5 : ∀ c ∈ infL, 2 ≤ c := by decide
theorem Y0 (l : List Nat) : H7 (l.map Cc) = H7 l := by
 unfold H7
 simp only [Anc, Anf, drop_one, Ag7, J9, Apv An5, V8, Aps, Ao2, Ao0]
def nrw (z : Nat) (us : List Nat) : List Nat := us.map fun u => if 127 < u then z else u
theorem Am0 (us : List Nat) : (nrw 1 us).map Cc = (nrw 0 us).map Cc := by
 unfold nrw
 rw [List.map_map, List.map_map]
 refine List.map_congr_left (fun u _ => ?_)
 show Cc (if 127 < u then 1 else u) = Cc (if 127 < u then 0 else u)
 split <;> rfl
theorem Aiz {z : Nat} (hz : z < 128) (us : List Nat) : ∀ c ∈ nrw z us, c < 128 := by
 intro c hc
 unfold nrw at hc
 obtain ⟨u, _, rfl⟩ := List.mem_map.1 hc
 split <;> omega
theorem Apq (us : List Nat) : H7 (nrw 1 us) = H7 (nrw 0 us) := by rw [← Y0, Am0, Y0]
end
section
theorem Ko (s : ByteArray) : ∀ c ∈ bl s, c < 256 := by
 intro c hc
 unfold bl at hc
 obtain ⟨b, _, rfl⟩ := List.mem_map.1 hc
 exact b.toNat_lt
theorem Aqp (X : List UInt8) : bl ⟨X.toArray⟩ = X.map UInt8.toNat := by unfold bl; simp
theorem Hp {X : List UInt8} {L : List Nat} (h : X.map UInt8.toNat = L) : (⟨X.toArray⟩ : ByteArray) = Ab L := by
 refine Tc ?_
 rw [Aqp, h, Aj]
 intro u hu
 rw [← h] at hu
 obtain ⟨b, _, rfl⟩ := List.mem_map.1 hu
 exact b.toNat_lt
theorem Pr (s : ByteArray) : Ab (bl s) = s := Tc (Aj (Ko s))
theorem Ip (s : ByteArray) : s.data.toList.map UInt8.toNat = bl s := rfl
theorem Af (l : List Nat) : (Ab l).size = l.length := by
 unfold Ab
 show (Array.size _) = _
 simp
theorem Bu (s : ByteArray) : (bl s).length = s.size := Apl s
theorem Aep : Ab [] = ByteArray.empty := rfl
theorem Ku {p : UInt8 → Bool} {q : Nat → Bool} (h : ∀ b : UInt8, p b = q b.toNat) : ∀ l : List UInt8, (l.dropWhile p).map UInt8.toNat = (l.map UInt8.toNat).dropWhile q := by
 intro l
 rw [List.dropWhile_map]
 congr 1
 congr 1
 funext b
 exact h b
theorem Aik (s : ByteArray) (k : UInt8) : Lib.hasPrefix s.data.toList [k] = ((bl s).head? == some k.toNat) := by
 unfold Lib.hasPrefix bl
 cases s.data.toList with
 | nil => rfl
 | cons c r =>
  show (k == c && true) = (some c.toNat == some k.toNat)
  rw [Bool.eq_iff_iff]
  simp only [Bool.and_true, beq_iff_eq, Option.some.injEq]
  exact ⟨fun e => by rw [e], fun e => (UInt8.toNat_inj.1 e).symm⟩
theorem Akr (s : ByteArray) (k : UInt8) : (⟨(Lib.trimPrefix s.data.toList [k]).toArray⟩ : ByteArray) = Ab (if (bl s).head? = some k.toNat then (bl s).tail else bl s) := by
 refine Hp ?_
 unfold Lib.trimPrefix
 rw [Aik]
 by_cases h : (bl s).head? = some k.toNat
 ·rw [if_pos h, beq_iff_eq.2 h, if_pos rfl, List.map_drop, Ip]
  exact List.drop_one
 ·rw [if_neg h, beq_eq_false_iff_ne.2 h, if_neg (by simp), Ip]
theorem Acs : ∀ (p l : List UInt8), p.isPrefixOf l = (p.map UInt8.toNat).isPrefixOf (l.map UInt8.toNat)
 | [], l => by cases l <;> rfl
 | c :: p, [] => rfl
 | c :: p, d :: l => by
  show (c == d && p.isPrefixOf l) = (c.toNat == d.toNat && (p.map UInt8.toNat).isPrefixOf (l.map UInt8.toNat))
  rw [Acs p l]
  congr 1
  rw [Bool.eq_iff_iff, beq_iff_eq, beq_iff_eq]
  exact ⟨fun e => by rw [e], fun e => UInt8.toNat_inj.1 e⟩
theorem Ahj (s p : ByteArray) : Lib.hasPrefix s.data.toList p.data.toList = (bl p).isPrefixOf (bl s) := Acs _ _
theorem Aoz (s p : ByteArray) : (⟨(Lib.trimPrefix s.data.toList p.data.toList).toArray⟩ : ByteArray) = Ab (if (bl p).isPrefixOf (bl s) = true then (bl s).drop p.size else bl s) := by
 refine Hp ?_
 unfold Lib.trimPrefix
 rw [Ahj]
 by_cases h : (bl p).isPrefixOf (bl s) = true
 ·rw [if_pos h, if_pos h, List.map_drop, Ip, ← Lib.size_eq]
 ·rw [if_neg h, if_neg h, Ip]
def P9 (r : Nat) : ByteArray := (⟨#[48, 49, 50, 51, 52, 53, 54, 55, 56, 57, 97, 98, 99, 100, 101, 102, 103, 104, 105, 106, 107, 108, 109, 110, 111, 112, 113, 114, 115, 116, 117, 118, 119, 120, 121, 122]⟩ : ByteArray).extract 0 r
def ldq (r : Nat) (c : Nat) : Bool := decide (dgt c < r) && !(decide (65 ≤ c) && decide (c ≤ 90))
theorem An1 : ∀ (r : Fin 37) (b : Fin 256), (P9 r.val).data.toList.contains (UInt8.ofNat b.val) = ldq r.val b.val := by decide +kernel
theorem Sy {r : Nat} (hr : r ≤ 36) (b : UInt8) : (P9 r).data.toList.contains b = ldq r b.toNat := by
 have := An1 ⟨r, by omega⟩ ⟨b.toNat, b.toNat_lt⟩
 simpa using this
theorem Aef : ∀ (r : Fin 37) (j : Fin 37), ∀ b, (P9 r.val).data.toList[j.val]? = some b → b.toNat < 128 := by decide +kernel
theorem Acu : ∀ r : Fin 37, (P9 r.val).data.toList.length = r.val := by decide +kernel
theorem Af6 {r : Nat} (hr : r ≤ 36) : (P9 r).size = r := by rw [Lib.size_eq]; exact Acu ⟨r, by omega⟩
theorem Aml {r : Nat} (hr : r ≤ 36) : ∀ (j : Nat) (b : UInt8), (P9 r).data.toList[j]? = some b → b.toNat < 128 := by
 intro j b hb
 rcases Nat.lt_or_ge j 37 with h | h
 ·exact Aef ⟨r, by omega⟩ ⟨j, h⟩ b hb
 ·exfalso
  rw [List.getElem?_eq_none (by rw [Acu ⟨r, by omega⟩]; show r ≤ j; omega)] at hb
  cases hb
theorem Aoa (c : Nat) : ldq 10 c = Bs c := by
 unfold ldq
 rw [Bool.eq_iff_iff, Bool.and_eq_true, decide_eq_true_eq, Aat]
 constructor
 ·exact fun h => h.1
 ·intro h
  refine ⟨h, ?_⟩
  have := Bo.1 h
  simp; omega
theorem Apx {r : Nat} (hr : r ≤ 36) (s : ByteArray) : (⟨(Lib.trimLeftS s.data.toList (P9 r).data.toList).toArray⟩ : ByteArray) = Ab ((bl s).dropWhile (ldq r)) :=
 Hp (Ku (fun b => Sy hr b) _)
theorem Me (b : UInt8) : [(48 : UInt8)].contains b = (b.toNat == 48) := by
 rw [Lib.contains_one, Bool.eq_iff_iff, beq_iff_eq, beq_iff_eq]
 exact ⟨fun e => by rw [e]; rfl, fun e => UInt8.toNat_inj.1 e⟩
theorem Ap9 (s : ByteArray) : (⟨(Lib.trimLeftS s.data.toList [48]).toArray⟩ : ByteArray) = Ab (ldz (bl s)) :=
 Hp (Ku (q := (· == 48)) (fun b => Me b) _)
theorem Aqg (s : ByteArray) : (⟨(Lib.trimRightS s.data.toList [48]).toArray⟩ : ByteArray) = Ab (trz (bl s)) := by
 refine Hp ?_
 unfold Lib.trimRightS trz
 rw [List.map_reverse, Ku (q := (· == 48)) (fun b => Me b), List.map_reverse]
 rfl
def Gg (c : Nat) : Nat := if 65 ≤ c ∧ c ≤ 90 then c + 32 else c
theorem Ahg : ∀ b : Fin 128, (Lib.lowerB (UInt8.ofNat b.val)).toNat = Gg b.val := by decide +kernel
theorem Akq {s : ByteArray} (h : ∀ c ∈ bl s, c < 128) : (⟨(Lib.toLowerA s.data.toList).toArray⟩ : ByteArray) = Ab ((bl s).map Gg) := by
 refine Hp ?_
 unfold Lib.toLowerA bl
 rw [List.map_map, List.map_map]
 refine List.map_congr_left (fun b hb => ?_)
 have h1 : b.toNat < 128 := h b.toNat (List.mem_map.2 ⟨b, hb, rfl⟩)
 have := Ahg ⟨b.toNat, h1⟩
 simpa using this
theorem Aox {s : ByteArray} (h : ∀ c ∈ bl s, c < 128) : ∀ (j : Nat) (b : UInt8), s.data.toList[j]? = some b → b.toNat < 128 := fun _ b hb => h b.toNat (List.mem_map.2 ⟨b, List.mem_of_getElem? hb, rfl⟩)
theorem U2 (c : Nat) : dgt (Gg c) = dgt c := by
 unfold dgt Gg
 split <;> (repeat' split) <;> omega
theorem Ade (r c : Nat) : ldq r (Gg c) = decide (dgt c < r) := by
 unfold ldq
 rw [U2]
 have : (decide (65 ≤ Gg c) && decide (Gg c ≤ 90)) = false := by unfold Gg; split <;> simp <;> omega
 rw [this]
 simp
theorem Acp (r : Nat) : ∀ l : List Nat, num r (l.map Gg) = num r l
 | [] => rfl
 | c :: l => by rw [List.map_cons, Fp, Fp, U2, Acp r l, List.length_map]
theorem Aic (r : Nat) (l : List Nat) : (l.map Gg).takeWhile (ldq r) = (l.takeWhile (fun c => decide (dgt c < r))).map Gg := by
 rw [List.takeWhile_map]
 congr 1
 congr 1
 funext c
 exact Ade r c
theorem Aly (r : Nat) (l : List Nat) : (l.map Gg).dropWhile (ldq r) = (l.dropWhile (fun c => decide (dgt c < r))).map Gg := by
 rw [List.dropWhile_map]
 congr 1
 congr 1
 funext c
 exact Ade r c
theorem Dp (s : ByteArray) (k : Nat) : s.extract 0 k = Ab ((bl s).take k) := by
 refine Tc ?_
 rw [Aj (fun u hu => Ko s u (List.mem_of_mem_take hu))]
 unfold bl
 rw [Lib.extract_data, List.drop_zero, Nat.sub_zero, List.map_take]
theorem Et (s : ByteArray) (k : Nat) : s.extract k s.size = Ab ((bl s).drop k) := by
 refine Tc ?_
 rw [Aj (fun u hu => Ko s u (List.mem_of_mem_drop hu)), Ac2]
theorem Aib (p : Nat → Bool) (l : List Nat) : l.take (l.length - (l.dropWhile p).length) = l.takeWhile p := by
 have h := List.takeWhile_append_dropWhile (p := p) (l := l)
 have hl := congrArg List.length h
 rw [List.length_append] at hl
 have h2 : l.length - (l.dropWhile p).length = (l.takeWhile p).length := by omega
 rw [h2]
 have h3 : (l.takeWhile p ++ l.dropWhile p).take (l.takeWhile p).length = l.takeWhile p := List.take_left
 rw [h] at h3
 exact h3
theorem Ai (a b : List Nat) : Ab a ++ Ab b = Ab (a ++ b) := by
 unfold Ab
 rw [List.map_append]
 apply ByteArray.ext
 simp
end
section
def dL (n : Nat) : List Nat := (Lib.decDigits n).map UInt8.toNat
theorem Yb {n : Nat} (h : n < 256) : (UInt8.ofNat n).toNat = n := by simp; omega
theorem Cy {n : Nat} (h : n < 10) : dL n = [48 + n] := by
 unfold dL
 rw [Lib.decDigits, dif_pos h, List.map_cons, List.map_nil, Yb (by omega)]
theorem Hl {n : Nat} (h : 10 ≤ n) : dL n = dL (n / 10) ++ [48 + n % 10] := by
 unfold dL
 rw [Lib.decDigits, dif_neg (by omega), List.map_append, List.map_cons, List.map_nil, Yb (by omega)]
theorem Acn {n d : Nat} (hn : 0 < n) (hd : d < 10) : dL (n * 10 + d) = dL n ++ [48 + d] := by
 rw [Hl (by omega), show (n * 10 + d) / 10 = n by omega, show (n * 10 + d) % 10 = d by omega]
theorem Ab7 {P : Nat → Prop} (h1 : ∀ n, n < 10 → P n) (h2 : ∀ n, 10 ≤ n → P (n / 10) → P n) (n : Nat) : P n := by
 induction n using Nat.strongRecOn with
 | _ n ih =>
  by_cases h : n < 10
  ·exact h1 n h
  ·exact h2 n (by omega) (ih _ (by omega))
theorem Ll (n : Nat) : ∀ c ∈ dL n, Bs c = true := by
 refine Ab7 (P := fun n => ∀ c ∈ dL n, Bs c = true) ?_ ?_ n
 ·intro n h c hc
  rw [Cy h, List.mem_singleton] at hc
  subst hc
  exact Bo.2 (by omega)
 ·intro n h ih c hc
  rw [Hl h, List.mem_append, List.mem_singleton] at hc
  rcases hc with hc | rfl
  ·exact ih c hc
  ·exact Bo.2 (by omega)
theorem Adc (n : Nat) : dL n ≠ [] := by
 by_cases h : n < 10
 ·rw [Cy h]; simp
 ·rw [Hl (by omega)]; simp
theorem Abp (n : Nat) : 0 < (dL n).length := List.length_pos_iff.2 (Adc n)
theorem Adh {d : Nat} (h : d < 10) : dgt (48 + d) = d := by
 have := Ih (c := 48 + d) (Bo.2 (by omega))
 omega
theorem Aan (n : Nat) : num 10 (dL n) = n := by
 refine Ab7 (P := fun n => num 10 (dL n) = n) ?_ ?_ n
 ·intro n h
  rw [Cy h, Nl, Adh h]
 ·intro n h ih
  rw [Hl h, E7, ih, Nl, Adh (by omega), List.length_singleton]
  omega
theorem Amf {n : Nat} : 0 < n → (dL n).head? ≠ some 48 := by
 refine Ab7 (P := fun n => 0 < n → (dL n).head? ≠ some 48) ?_ ?_ n
 ·intro n h h0
  rw [Cy h]
  simp
  omega
 ·intro n h ih _
  have := Adc (n / 10)
  have ih' := ih (by omega)
  rw [Hl h]
  cases hd : dL (n / 10) with
  | nil => exact absurd hd this
  | cons a b =>
   rw [hd] at ih'
   simpa using ih'
theorem Aoe (n : Nat) : n < 10 ^ (dL n).length := by
 have := Hf (g := dL n) (Ll n)
 rwa [Aan] at this
theorem Adl {n : Nat} (h : 0 < n) : 10 ^ ((dL n).length - 1) ≤ n := by
 have := Hq (g := dL n) (Ll n) (Adc n) (Amf h)
 rwa [Aan] at this
theorem Py {a b : Nat} (h : 10 ^ a < 10 ^ b) : a < b := by
 rcases Nat.lt_or_ge a b with h1 | h1
 ·exact h1
 ·have := Nat.pow_le_pow_right (n := 10) (by omega) h1
  omega
theorem Uo {n k : Nat} (h1 : 10 ^ k ≤ n) (h2 : n < 10 ^ (k + 1)) : (dL n).length = k + 1 := by
 have hp := Aq k
 have a1 := Py (Nat.lt_of_le_of_lt h1 (Aoe n))
 have a2 := Py (Nat.lt_of_le_of_lt (Adl (n := n) (by omega)) h2)
 omega
theorem Ju {n : Nat} (hn : 0 < n) : ∀ j : Nat, dL (n * 10 ^ j) = dL n ++ List.replicate j 48
 | 0 => by simp
 | j + 1 => by
  have h := Acn (n := n * 10 ^ j) (d := 0) (Nat.mul_pos hn (Aq j)) (by omega)
  rw [Nat.pow_succ, ← Nat.mul_assoc, show n * 10 ^ j * 10 = n * 10 ^ j * 10 + 0 by omega, h, Ju hn j, List.replicate_succ', List.append_assoc]
theorem Akp {d : Nat} (h : d < 10) : dch d = 48 + d := by unfold dch; rw [if_pos h]
theorem Ajq : ∀ {D : List Nat}, Ds 10 D → 0 < dv 10 D → ((Fv D).map dch).reverse = dL (dv 10 D)
 | [], _, h => by simp [dv] at h
 | x :: l, hd, h => by
  have hx := hd.head
  have hl := hd.tail
  rcases Nat.eq_zero_or_pos (dv 10 l) with h0 | h0
  ·have e := L8 (r := 10) (by omega) h0
   rw [dv, h0] at h
   rw [Fv, e, if_neg (by omega), dv, h0, Nat.mul_zero, Nat.add_zero, Cy hx]
   simp [Akp hx]
  ·have ih := Ajq hl h0
   have hne : Fv l ≠ [] := by
    intro e
    rw [e] at ih
    exact Adc _ ih.symm
   rw [Fv, if_neg (fun h => hne h.2), dv, List.map_cons, List.reverse_cons, ih, Akp hx, Nat.add_comm x, Nat.mul_comm 10, Acn h0 hx]
theorem Amt {n : Nat} {t : ByteArray} (h : Xz 10 n t) : bl t = dL n := by
 rcases h with ⟨rfl, h⟩ | ⟨h0, D, h1, rfl, h2⟩
 ·rw [h, Cy (by omega)]
 ·rw [h2, Ajq h1 h0]
theorem Ahp {n : Nat} {t : ByteArray} (h : Xz 10 n t) : t = Ab (dL n) := by rw [← Amt h, Pr]
theorem Wz {l : List Nat} {c : Nat} (h : c ≠ 48) : trz (l ++ [c]) = l ++ [c] := by
 unfold trz
 rw [List.reverse_append, List.reverse_singleton, List.singleton_append, List.dropWhile_cons_of_neg (by simpa using h)]
 simp
theorem Tm (l : List Nat) : ∀ j : Nat, trz (l ++ List.replicate j 48) = trz l
 | 0 => by simp
 | j + 1 => by
  rw [List.replicate_succ', ← List.append_assoc]
  have : ∀ m : List Nat, trz (m ++ [48]) = trz m := fun m => by
   unfold trz
   rw [List.reverse_append, List.reverse_singleton, List.singleton_append, List.dropWhile_cons_of_pos (by simp)]
  rw [this, Tm l j]
theorem Kc {n : Nat} (h : n % 10 ≠ 0) : trz (dL n) = dL n := by
 by_cases h1 : n < 10
 ·rw [Cy h1, show [48 + n] = [] ++ [48 + n] from rfl, Wz (by omega)]
 ·rw [Hl (by omega), Wz (by omega)]
theorem Apj {n : Nat} (h : n % 10 ≠ 0) (j : Nat) : trz (dL (n * 10 ^ j)) = dL n := by
 rw [Ju (by omega), Tm, Kc h]
end
section
def Ao3 (K : Nat) : Nat := 2 ^ K
theorem Anm (K : Nat) : Ao3 K = 2 ^ K := rfl
theorem Ait (K : Nat) : 0 < Ao3 K := Au K
def big : Nat := Ao3 1074
theorem Fi : 0 < big := Ait 1074
theorem Mf : ∃ K : Nat, K = 1074 ∧ big = 2 ^ K := ⟨1074, rfl, Anm 1074⟩
def vU (r : Nat) (s : Int) : Nat := Ac r * 10 ^ s.toNat
def vV (s : Int) : Nat := big * 10 ^ (-s).toNat
theorem Dn (s : Int) : 0 < vV s := Nat.mul_pos Fi (Aq _)
theorem Pt (N : Nat) (e : Int) : Bf N e = rnd (N * vV (-e)) (10 ^ (-e).toNat) := by
 obtain ⟨K, hK, hd⟩ := Fx
 obtain ⟨K', hK', hb⟩ := Mf
 have : K' = K := by omega
 subst this
 unfold vV
 rw [hd, hb, show (- -e).toNat = e.toNat by omega, Nat.mul_assoc, Nat.mul_comm (10 ^ e.toNat)]
theorem Anr {u v a b c d : Nat} (e : c + b = a + d) : v * 10 ^ a ≤ u * 10 ^ b ↔ v * 10 ^ c ≤ u * 10 ^ d := by
 have hb := Aq b
 have hd := Aq d
 have e1 : v * 10 ^ a * 10 ^ d = v * 10 ^ c * 10 ^ b := by rw [Nat.mul_assoc, Nat.mul_assoc, ← Nat.pow_add, ← Nat.pow_add, e]
 have e2 : u * 10 ^ b * 10 ^ d = u * 10 ^ d * 10 ^ b := Nat.mul_right_comm _ _ _
 rw [← Nat.mul_le_mul_right_iff hd, e1, e2, Nat.mul_le_mul_right_iff hb]
theorem Tj {r j : Nat} {m s : Int} (h : m + s = j) : E0 m (Ac r) big ↔ 10 ^ j * vV s ≤ vU r s := by
 unfold E0 vU vV
 rw [Nat.mul_left_comm, ← Nat.pow_add]
 exact Anr (by omega)
theorem Xw (r i : Nat) (s : Int) : vU r (s - i) * (vV s * 10 ^ i) = vU r s * vV (s - i) := by
 unfold vU vV
 have h1 : Ac r * 10 ^ (s - i).toNat * (big * 10 ^ (-s).toNat * 10 ^ i) = Ac r * big * (10 ^ (s - i).toNat * 10 ^ (-s).toNat * 10 ^ i) := by
  generalize 10 ^ (s - i).toNat = a
  generalize 10 ^ (-s).toNat = b
  generalize 10 ^ i = c
  grind
 have h2 : Ac r * 10 ^ s.toNat * (big * 10 ^ (-(s - i)).toNat) = Ac r * big * (10 ^ s.toNat * 10 ^ (-(s - i)).toNat) := by
  generalize 10 ^ s.toNat = a
  generalize 10 ^ (-(s - i)).toNat = b
  grind
 rw [h1, h2, ← Nat.pow_add, ← Nat.pow_add, ← Nat.pow_add]
 exact congrArg (fun k => Ac r * big * 10 ^ k) (by omega)
theorem Ja (r i : Nat) (s : Int) : vU r (s - i) / vV (s - i) = vU r s / vV s / 10 ^ i := by
 rw [(Ei (Dn _) (Nat.mul_pos (Dn s) (Aq i)) (Xw r i s)).1, Nat.div_div_eq_div_mul]
theorem Abj (r i half : Nat) (s : Int) (hi : 10 ^ i = 2 * half) :
  (2 * (vU r (s - i) % vV (s - i)) < vV (s - i) ↔ vU r s / vV s % 10 ^ i < half) ∧ (2 * (vU r (s - i) % vV (s - i)) = vV (s - i) ↔ vU r s / vV s % 10 ^ i = half ∧ vU r s % vV s = 0) := by
 have h := Ei (Dn _) (Nat.mul_pos (Dn s) (Aq i)) (Xw r i s)
 have g := Aec (U := vU r s) (half := half) (Dn s)
 rw [← hi] at g
 exact ⟨h.2.1.trans g.2.1, h.2.2.trans g.2.2⟩
def cq (r : Nat) (n : Int) (k : Nat) : Nat := vU r (k - n) / vV (k - n)
def Gi (r : Nat) (n : Int) (k : Nat) : Bool := decide (2 * (vU r (k - n) % vV (k - n)) < vV (k - n)) || (decide (2 * (vU r (k - n) % vV (k - n)) = vV (k - n)) && decide (cq r n k % 2 = 0))
def Hs (r : Nat) (n : Int) (k : Nat) : Bool := decide (Bf (cq r n k) (n - k) = r)
def Fq (r : Nat) (n : Int) (k : Nat) : Bool := decide (Bf (cq r n k + 1) (n - k) = r)
def cnd (r : Nat) (n : Int) (k : Nat) : Option Nat :=
 if (Hs r n k && (!Fq r n k || Gi r n k)) = true then some (cq r n k) else if Fq r n k = true then some (cq r n k + 1) else none
theorem Hw {r k : Nat} {n : Int} : cnd r n k = none ↔ Hs r n k = false ∧ Fq r n k = false := by
 unfold cnd
 cases Hs r n k <;> cases Fq r n k <;> cases Gi r n k <;> simp
theorem Wu {r k c : Nat} {n : Int} (h : cnd r n k = some c) : (c = cq r n k ∨ c = cq r n k + 1) ∧ Bf c (n - k) = r := by
 unfold cnd at h
 split at h
 ·rename_i hc
  injection h with h
  subst h
  refine ⟨.inl rfl, ?_⟩
  have := (Bool.and_eq_true _ _ ▸ hc).1
  exact of_decide_eq_true this
 ·split at h
  ·rename_i hc
   injection h with h
   subst h
   exact ⟨.inr rfl, of_decide_eq_true hc⟩
  ·cases h
theorem Ajs {r k : Nat} {n : Int} (hp : Bv (Ac r) big n) (hk : 1 ≤ k) : 10 ^ (k - 1) ≤ cq r n k := by
 unfold cq
 rw [Nat.le_div_iff_mul_le (Dn _)]
 exact (Tj (by omega)).1 hp.1
theorem Ads {r k : Nat} {n : Int} (hp : Bv (Ac r) big n) : cq r n k < 10 ^ k := by
 unfold cq
 rw [Nat.div_lt_iff_lt_mul (Dn _)]
 exact Nat.lt_of_not_le fun h => hp.2 ((Tj (by omega)).2 h)
theorem Apd (r k : Nat) (n : Int) : cq r n k = cq r n (k + 1) / 10 := by
 unfold cq
 have := Ja r 1 (((k + 1 : Nat) : Int) - n)
 rw [Nat.pow_one, show ((k + 1 : Nat) : Int) - n - ((1 : Nat) : Int) = (k : Int) - n by omega] at this
 exact this
theorem Hb {r k c : Nat} {n : Int} (hp : Bv (Ac r) big n) (hk : 1 ≤ k) (hmin : ∀ j, 1 ≤ j → j < k → cnd r n j = none) (h : cnd r n k = some c) :
  (c % 10 ≠ 0 ∧ 10 ^ (k - 1) ≤ c ∧ c < 10 ^ k) ∨ (k = 1 ∧ c = 10) := by
 obtain ⟨hc, hd⟩ := Wu h
 have b1 := Ajs (k := k) hp hk
 have b2 := Ads (k := k) hp
 by_cases h0 : c % 10 = 0
 ·right
  rcases Nat.lt_or_ge 1 k with h1 | h1
  ·exfalso
   obtain ⟨j, rfl⟩ : ∃ j, k = j + 1 := ⟨k - 1, by omega⟩
   have hn := Hw.1 (hmin j (by omega) (by omega))
   have hq := Apd r j n
   obtain ⟨d, rfl⟩ : ∃ d, c = d * 10 ^ 1 := ⟨c / 10, by omega⟩
   rw [Ej, show n - ((j + 1 : Nat) : Int) + ((1 : Nat) : Int) = n - (j : Int) by omega] at hd
   rcases hc with hc | hc
   ·have : d = cq r n j := by rw [hq]; omega
    rw [this] at hd
    have := hn.1
    unfold Hs at this
    exact of_decide_eq_false this hd
   ·have : d = cq r n j + 1 := by rw [hq]; omega
    rw [this] at hd
    have := hn.2
    unfold Fq at this
    exact of_decide_eq_false this hd
  ·have hk1 : k = 1 := by omega
   subst hk1
   refine ⟨rfl, ?_⟩
   simp at b1 b2
   omega
 ·left
  refine ⟨h0, by omega, ?_⟩
  rcases hc with rfl | hc
  ·exact b2
  ·rcases Nat.lt_or_ge c (10 ^ k) with h1 | h1
   ·exact h1
   ·exfalso
    have : c = 10 ^ k := by omega
    obtain ⟨j, rfl⟩ : ∃ j, k = j + 1 := ⟨k - 1, by omega⟩
    rw [this, Nat.pow_succ] at h0
    omega
def SQ (r : Nat) (D : List Nat) (N : Int) : Prop := ∃ n k c, Bv (Ac r) big n ∧ 1 ≤ k ∧ k ≤ 17 ∧ (∀ j, 1 ≤ j → j < k → cnd r n j = none) ∧ cnd r n k = some c ∧ D = trz (dL c) ∧ N = (dL c).length + n - k
theorem SQ.one {r : Nat} {D E : List Nat} {N M : Int} (h : SQ r D N) (g : SQ r E M) : D = E ∧ N = M := by
 obtain ⟨n, k, c, h1, h2, _, h3, h4, h5, h6⟩ := h
 obtain ⟨n', k', c', g1, g2, _, g3, g4, g5, g6⟩ := g
 have hn := K5 h1 g1
 subst hn
 have hk : k = k' := by
  rcases Nat.lt_trichotomy k k' with h | h | h
  ·rw [g3 k h2 h] at h4; cases h4
  ·exact h
  ·rw [h3 k' g2 h] at g4; cases g4
 subst hk
 rw [h4] at g4
 injection g4 with g4
 subst g4
 exact ⟨h5.trans g5.symm, h6.trans g6.symm⟩
theorem N6 {r : Nat} {n : Int} (hp : Bv (Ac r) big n) (h0 : 0 < r) (hr : r < 9218868437227405312) : cnd r n 17 ≠ none := by
 intro hn
 obtain ⟨n1, n2⟩ := Hw.1 hn
 have hbig : 100000000000000000 * vV (18 - n) ≤ Ac r * 10 ^ ((18 : Int) - n).toNat := (Tj (j := 17) (s := 18 - n) (by omega)).1 hp.1
 have hB := Aq ((18 : Int) - n).toNat
 have hq := Ja r 1 (18 - n)
 rw [Nat.pow_one, show (18 : Int) - n - ((1 : Nat) : Int) = ((17 : Nat) : Int) - n by omega] at hq
 have l1 := Ac5 (unit := 10) (Dn (18 - n)) hB h0 hr
 have l2 := Wj (unit := 10) (Dn (18 - n)) hB (by omega) h0 hr
 have hH : vU r (18 - n) = Ac r * 10 ^ ((18 : Int) - n).toNat := rfl
 have sh : ∀ c, Bf c (n - ((17 : Nat) : Int)) = rnd (c * 10 * vV (18 - n)) (10 ^ ((18 : Int) - n).toNat) := by
  intro c
  have e1 := Ej c 1 (n - 18)
  rw [Nat.pow_one, show n - 18 + ((1 : Nat) : Int) = n - ((17 : Nat) : Int) by omega] at e1
  rw [← e1, Pt, show -(n - 18) = 18 - n by omega]
 have m1 := of_decide_eq_false n1
 have m2 := of_decide_eq_false n2
 unfold cq at m1 m2
 rw [sh, hq, hH] at m1 m2
 rcases Aeu (Dn (18 - n)) hB h0 hbig with h | h
 ·exact m1 (l1.2 h)
 ·exact m2 (l2.2 h)
end
section
def pcn (H : Nat) (ex : Bool) (L M unit : Nat) : Option Nat :=
 if L ≤ H - H % unit ∧ (¬ H - H % unit + unit ≤ M ∨ H % unit < unit / 2 ∨ (H % unit = unit / 2 ∧ ex = true ∧ (H - H % unit) / unit % 2 = 0)) then some (H - H % unit)
 else if H - H % unit + unit ≤ M then some (H - H % unit + unit) else none
theorem Al7 {r k i M : Nat} {n : Int} (hk : k + i = 18) (hi : 1 ≤ i) (h0 : 0 < r) (hr : r < 9218868437227405312)
  (hM : ∀ c, c ≤ M ↔ Ek (vV (18 - n)) (10 ^ ((18 : Int) - n).toNat) r c) :
  pcn (vU r (18 - n) / vV (18 - n)) (decide (vU r (18 - n) % vV (18 - n) = 0)) (Cw (vV (18 - n)) (10 ^ ((18 : Int) - n).toNat) r) M (10 ^ i) = (cnd r n k).map (· * 10 ^ i) := by
 have hB := Aq ((18 : Int) - n).toNat
 have hu := Aq i
 obtain ⟨half, hh⟩ : ∃ half, 10 ^ i = 2 * half := ⟨5 * 10 ^ (i - 1), by
  obtain ⟨j, rfl⟩ : ∃ j, i = j + 1 := ⟨i - 1, by omega⟩
  rw [Nat.pow_succ, Nat.add_sub_cancel]
  omega⟩
 have hs : (18 : Int) - n - (i : Int) = (k : Int) - n := by omega
 have hq := Ja r i (18 - n)
 have hl := Abj r i half (18 - n) hh
 rw [hs] at hq hl
 have l1 := Ac5 (unit := 10 ^ i) (Dn (18 - n)) hB h0 hr
 have l2 := Wj (unit := 10 ^ i) (Dn (18 - n)) hB hu h0 hr
 rw [show Ac r * 10 ^ ((18 : Int) - n).toNat = vU r (18 - n) from rfl] at l1 l2
 have sh : ∀ c, Bf c (n - (k : Int)) = rnd (c * 10 ^ i * vV (18 - n)) (10 ^ ((18 : Int) - n).toNat) := by
  intro c
  have e1 := Ej c i (n - 18)
  rw [show n - 18 + (i : Int) = n - (k : Int) by omega] at e1
  rw [← e1, Pt, show -(n - 18) = 18 - n by omega]
 have hcq : cq r n k = vU r (18 - n) / vV (18 - n) / 10 ^ i := hq
 generalize hH : vU r (18 - n) / vV (18 - n) = H at *
 have hdn : H - H % 10 ^ i = H / 10 ^ i * 10 ^ i := by
  have := Nat.div_add_mod H (10 ^ i)
  rw [Nat.mul_comm] at this
  omega
 have hup : H / 10 ^ i * 10 ^ i + 10 ^ i = (H / 10 ^ i + 1) * 10 ^ i := by rw [Nat.add_mul, Nat.one_mul]
 have ta : Cw (vV (18 - n)) (10 ^ ((18 : Int) - n).toNat) r ≤ H / 10 ^ i * 10 ^ i ↔ Hs r n k = true := by
  rw [← l1]
  unfold Hs
  rw [decide_eq_true_iff, hcq, sh]
 have tb : H / 10 ^ i * 10 ^ i + 10 ^ i ≤ M ↔ Fq r n k = true := by
  rw [hM, hup, ← l2]
  unfold Fq
  rw [decide_eq_true_iff, hcq, sh]
 have tc : (H % 10 ^ i < 10 ^ i / 2 ∨ (H % 10 ^ i = 10 ^ i / 2 ∧ decide (vU r (18 - n) % vV (18 - n) = 0) = true ∧ H / 10 ^ i * 10 ^ i / 10 ^ i % 2 = 0)) ↔ Gi r n k = true := by
  unfold Gi
  rw [Bool.or_eq_true, Bool.and_eq_true, decide_eq_true_iff, decide_eq_true_iff, decide_eq_true_iff, decide_eq_true_iff, hl.1, hl.2, hcq, Nat.mul_div_cancel _ hu, show 10 ^ i / 2 = half by omega]
  constructor
  ·rintro (h | ⟨a, b, c⟩)
   ·exact .inl h
   ·exact .inr ⟨⟨a, b⟩, c⟩
  ·rintro (h | ⟨⟨a, b⟩, c⟩)
   ·exact .inl h
   ·exact .inr ⟨a, b, c⟩
 unfold pcn cnd
 rw [hdn, hcq]
 by_cases h1 : Hs r n k = true <;> by_cases h2 : Fq r n k = true <;> by_cases h3 : Gi r n k = true
 all_goals
  simp only [ta, tb, tc, h1, h2, h3]
  simp [Nat.add_mul]
theorem Ag3 {r s u : Nat} (hr : r < 9218868437227405312) (hrs : r < s) (h : Ac s ≤ u) : rnd u 1 ≠ r := by
 rcases Nat.lt_or_ge s 9218868437227405312 with hs | hs
 ·have h1 := Jy (v := 1) (by omega) hs
  have h2 := Y2 (u := Ac s * 1) (v := 1) (u' := u) (v' := 1) (by omega) (by omega) (by omega)
  omega
 ·have hf : Ac 9218868437227405312 ≤ Ac s := by
   rcases Nat.eq_or_lt_of_le hs with e | e
   ·rw [← e]; exact Nat.le_refl _
   ·exact Nat.le_of_lt (Fc.2 e)
  have := Nj (u := u) (v := 1) (by omega) (by rw [Nat.mul_one]; exact Nat.le_trans hf h)
  omega
theorem Ad5 {r s u : Nat} (hr : r < 9218868437227405312) (hrs : s < r) (h : u ≤ Ac s) : rnd u 1 ≠ r := by
 have h1 := Jy (v := 1) (r := s) (by omega) (by omega)
 have h2 := Y2 (u := u) (v := 1) (u' := Ac s * 1) (v' := 1) (by omega) (by omega) (by omega)
 omega
theorem Aam {N : Nat} (h : 0 < N) : ∃ c j, N = c * 10 ^ j ∧ c % 10 ≠ 0 := by
 induction N using Nat.strongRecOn with
 | _ N ih =>
  by_cases h0 : N % 10 = 0
  ·obtain ⟨c, j, h1, h2⟩ := ih (N / 10) (by omega) (by omega)
   refine ⟨c, j + 1, ?_, h2⟩
   rw [Nat.pow_succ, ← Nat.mul_assoc, ← h1]
   omega
  ·exact ⟨N, 0, by simp, h0⟩
theorem Alp {r N : Nat} (h0 : 0 < N) (hN : N < 9007199254740992) (hr : r < 9218868437227405312) (hm : Ac r = N * big) : SQ r (trz (dL N)) (dL N).length := by
 obtain ⟨K, hK, hbig⟩ := Mf
 obtain ⟨c, j, e, hc⟩ := Aam h0
 have hc0 : 0 < c := by omega
 have hlen : (dL N).length = (dL c).length + j := by rw [e, Ju hc0, List.length_append, List.length_replicate]
 obtain ⟨k, hk⟩ : ∃ k, (dL c).length = k := ⟨_, rfl⟩
 have hk1 : 1 ≤ k := by rw [← hk]; exact Abp c
 have hl1 := Aoe N
 have hl2 := Adl h0
 rw [hlen, hk] at hl1 hl2
 have hle : k + j ≤ 16 := by
  have h3 : 10 ^ (k + j - 1) < 10 ^ 16 := Nat.lt_of_le_of_lt hl2 (by omega)
  have := Py h3
  omega
 have hq : ∀ i : Nat, i ≤ k + j → cq r ((k + j : Nat) : Int) i = N / 10 ^ (k + j - i) ∧ vU r ((i : Int) - ((k + j : Nat) : Int)) % vV ((i : Int) - ((k + j : Nat) : Int)) = big * (N % 10 ^ (k + j - i)) := by
  intro i hi
  unfold cq vU vV
  rw [show ((i : Int) - ((k + j : Nat) : Int)).toNat = 0 by omega, show (-((i : Int) - ((k + j : Nat) : Int))).toNat = k + j - i by omega, Nat.pow_zero, Nat.mul_one, hm, Nat.mul_comm N]
  exact ⟨Nat.mul_div_mul_left _ _ Fi, Nat.mul_mod_mul_left _ _ _⟩
 have sh : ∀ d i : Nat, i ≤ k + j → Bf d (((k + j : Nat) : Int) - (i : Int)) = rnd (d * 10 ^ (k + j - i) * big) 1 := by
  intro d i hi
  rw [Pt]
  unfold vV
  rw [show (-(-(((k + j : Nat) : Int) - (i : Int)))).toNat = k + j - i by omega, show (-(((k + j : Nat) : Int) - (i : Int))).toNat = 0 by omega, Nat.pow_zero, Nat.mul_comm big, ← Nat.mul_assoc]
 have hNk : N / 10 ^ j = c := by rw [e]; exact Nat.mul_div_cancel _ (Aq j)
 have hNr : N % 10 ^ j = 0 := by rw [e]; exact Nat.mul_mod_left _ _
 have hqk := hq k (by omega)
 rw [show k + j - k = j by omega, hNk, hNr, Nat.mul_zero] at hqk
 have hlow : Hs r ((k + j : Nat) : Int) k = true := by
  unfold Hs
  rw [decide_eq_true_iff, hqk.1, sh c k (by omega), show k + j - k = j by omega, ← e, ← hm, ← Nat.mul_one (Ac r)]
  exact Jy (by omega) hr
 have hnear : Gi r ((k + j : Nat) : Int) k = true := by
  unfold Gi
  rw [hqk.2, Nat.mul_zero, decide_eq_true (Dn _), Bool.true_or]
 refine ⟨((k + j : Nat) : Int), k, c, ⟨?_, ?_⟩, hk1, by omega, ?_, ?_, by rw [e, Apj hc, Kc hc], by omega⟩
 ·unfold E0
  rw [show (((k + j : Nat) : Int) - 1).toNat = k + j - 1 by omega, show (-(((k + j : Nat) : Int) - 1)).toNat = 0 by omega, Nat.pow_zero, Nat.mul_one, hm, Nat.mul_comm N]
  exact Nat.mul_le_mul_left _ hl2
 ·unfold E0
  rw [show (((k + j : Nat) : Int)).toNat = k + j by omega, show (-(((k + j : Nat) : Int))).toNat = 0 by omega, Nat.pow_zero, Nat.mul_one, hm, Nat.mul_comm N]
  intro h
  have := Nat.le_of_mul_le_mul_left h Fi
  omega
 ·intro i hi1 hi2
  rw [Hw]
  have hqi := (hq i (by omega)).1
  obtain ⟨d, hd⟩ : ∃ d, k + j - i = j + 1 + d := ⟨k - 1 - i, by omega⟩
  rw [hd] at hqi
  have hne : N % 10 ^ (j + 1 + d) ≠ 0 := by
   intro h
   have h1 : 10 ^ (j + 1) ∣ N := Nat.dvd_trans ⟨10 ^ d, by rw [Nat.pow_add]⟩ (Nat.dvd_of_mod_eq_zero h)
   obtain ⟨f, hf⟩ := h1
   rw [e, Nat.pow_succ, Nat.mul_comm c, Nat.mul_assoc] at hf
   have := Nat.eq_of_mul_eq_mul_left (Aq j) hf
   omega
  have hdm := Nat.div_add_mod N (10 ^ (j + 1 + d))
  have hml := Nat.mod_lt N (Aq (j + 1 + d))
  constructor
  ·unfold Hs
   rw [decide_eq_false_iff_not, hqi, sh _ i (by omega), hd]
   have hW : N / 10 ^ (j + 1 + d) * 10 ^ (j + 1 + d) ≤ N - 1 := by
    rw [Nat.mul_comm]
    omega
   obtain ⟨f1, f2⟩ := Nq (N := N - 1) (by omega) hK
   rw [← hbig] at f1
   refine Ad5 (s := fl (N - 1)) hr (Fc.1 ?_) ?_
   ·rw [f1, hm]
    exact Nat.mul_lt_mul_of_pos_right (by omega) Fi
   ·rw [f1]
    exact Nat.mul_le_mul_right _ hW
  ·unfold Fq
   rw [decide_eq_false_iff_not, hqi, sh _ i (by omega), hd]
   have hW : N + 1 ≤ (N / 10 ^ (j + 1 + d) + 1) * 10 ^ (j + 1 + d) := by
    rw [Nat.add_mul, Nat.one_mul, Nat.mul_comm]
    omega
   obtain ⟨s, hs⟩ : ∃ s, Ac s = (N + 1) * big := by
    rcases Nat.lt_or_ge (N + 1) 9007199254740992 with h | h
    ·exact Ti (j := K) (by rw [hbig]) h
    ·have : N + 1 = 9007199254740992 := by omega
     rw [this]
     refine Ti (M := 1) (j := 53 + K) ?_ (by omega)
     rw [hbig, Nat.pow_add, Nat.one_mul]
   refine Ag3 (s := s) hr (Fc.1 ?_) ?_
   ·rw [hs, hm]
    exact Nat.mul_lt_mul_of_pos_right (by omega) Fi
   ·rw [hs]
    exact Nat.mul_le_mul_right _ hW
 ·unfold cnd
  rw [hlow, hnear, hqk.1]
  simp
end
section
theorem Uz {M k D : Nat} (x u : Nat) (a1 : 4503599627370496 ≤ M) (a2 : M < 9007199254740992) (hx : x = k * 4503599627370496 + M) (h2 : x < 9218868437227405312) (hD : D ≤ k) (hu : u = (k - D) * 4503599627370496 + M) (w : World) :
  Cq 224 #[.float .f64 x, .int .i64 (-(D : Int))] (.float .f64 u) w := by
 have h1 : 4503599627370496 ≤ x := by omega
 obtain ⟨p1, p2, p3⟩ := Ez (x := x) (by omega)
 have C1 := Lh (fun W => By x W)
 have C2 := Lh (fun W => Dv x W (by omega))
 rw [show Cs x = false from by unfold Cs; rw [p1]; exact decide_eq_false (by omega)] at C1
 rw [show Fa x = false from by unfold Fa; rw [p1]; exact decide_eq_false (by omega)] at C2
 have C3 := Lh (fun W => Gw x W h1 h2)
 have h3 := Fj x
 rw [p1, decide_eq_false (by omega)] at h3
 have h5 := Bq x w
 have h6 := Kn x (by omega)
 obtain ⟨t, ht2⟩ : ∃ t, M = 4503599627370496 + t := ⟨M - 4503599627370496, by omega⟩
 rw [show x % 4503599627370496 = t by omega] at h6
 have h7 := H6 (k + 1) (by omega)
 obtain ⟨Q, hQ⟩ : ∃ Q, k + 1 - D = Q := ⟨_, rfl⟩
 have h8 := Ny t Q (by omega) (by omega)
 have e8 : t + Q * 4503599627370496 = u := by
  rw [hu, ht2, ← hQ, show k + 1 - D = (k - D) + 1 by omega]; omega
 rw [e8] at h8
 have h9 := Bx u w
 have h10 := one_mul (y := u) (by omega) (by omega)
 have h11 : (binOp BinOp.mul 22 (.float .f64 4607182418800017408) (.float .f64 u)).run Tryz.prog w = .ok (.float .f64 u) w := run_float_arith _ _ _ _ _ _ _ h10
 have k1 : (x : Int) / 4503599627370496 = ((k + 1 : Nat) : Int) := by omega
 have k2 : IntKind.i64.wrap ((k + 1 : Nat) : Int) = ((k + 1 : Nat) : Int) := IntWalk.i64_in _ (by omega)
 have k3 : IntKind.i64.wrap (((k + 1 : Nat) : Int) - 1023) = (k : Int) - 1022 := by rw [IntWalk.i64_in _ (by omega)]; omega
 obtain ⟨X0, hX0⟩ : ∃ X0, -(D : Int) = X0 := ⟨_, rfl⟩
 have k4 : IntKind.i64.wrap X0 = X0 := IntWalk.i64_in _ (by omega)
 have k4' : IntKind.i64.wrap (X0 + 0) = X0 := by rw [Int.add_zero]; exact k4
 have k5 : IntKind.i64.wrap (X0 + ((k : Int) - 1022)) = (Q : Int) - 1023 := by rw [IntWalk.i64_in _ (by omega)]; omega
 have k6 : IntKind.i64.wrap ((Q : Int) - 1023 + 1023) = (Q : Int) := by rw [IntWalk.i64_in _ (by omega)]; omega
 have k7 : IntKind.u64.wrap (Q : Int) = (Q : Int) := by rw [IntKind.wrap_u64]; omega
 have k8 : IntKind.u64.wrap ((Q : Int) * 4503599627370496) = ((Q * 4503599627370496 : Nat) : Int) := by rw [IntKind.wrap_u64]; omega
 have t1 : decide ((Q : Int) - 1023 < -1075) = false := decide_eq_false (by omega)
 have t2 : decide (1023 < (Q : Int) - 1023) = false := decide_eq_false (by omega)
 have t3 : decide ((Q : Int) - 1023 < -1022) = false := decide_eq_false (by omega)
 obtain ⟨q, hq⟩ : ∃ q, k + 1 = q := ⟨_, rfl⟩
 obtain ⟨X1, hX1⟩ : ∃ X1, (k : Int) - 1022 = X1 := ⟨_, rfl⟩
 obtain ⟨X3, hX3⟩ : ∃ X3, (Q : Int) - 1023 = X3 := ⟨_, rfl⟩
 rw [hq] at h7 k1 k2 k3
 rw [hX1] at k3 k5
 rw [hX3] at k5 k6 t1 t2 t3
 rw [hX0]
 rw [← k8] at h8
 clear h1 h2 hx a1 a2 hD hu p1 p2 p3 ht2 hQ e8 h10 k8 hq hX1 hX0 hX3
 go_enter Tryz.func224, Tryz.ntmps224
 go_wp2_with fail
 refine Sm (C2.out _) ?_
 go_wp2_with fail
 refine Sm (C1.out _) ?_
 go_wp2_with fail
 refine Sm (C3.out _) ?_
 go_wp2
 go_ret
 exact ⟨rfl, rfl⟩
theorem U0 {M k D : Nat} (x v r : Nat) (a1 : 4503599627370496 ≤ M) (a2 : M < 9007199254740992) (hx : x = k * 4503599627370496 + M) (h2 : x < 9218868437227405312) (hD : k < D) (hD2 : D ≤ k + 52) (hv : v = (k + 53 - D) * 4503599627370496 + M) (hr : Ieee.double.mul 4368491638549381120 v = some r) (w : World) :
  Cq 224 #[.float .f64 x, .int .i64 (-(D : Int))] (.float .f64 r) w := by
 have h1 : 4503599627370496 ≤ x := by omega
 obtain ⟨p1, p2, p3⟩ := Ez (x := x) (by omega)
 have C1 := Lh (fun W => By x W)
 have C2 := Lh (fun W => Dv x W (by omega))
 rw [show Cs x = false from by unfold Cs; rw [p1]; exact decide_eq_false (by omega)] at C1
 rw [show Fa x = false from by unfold Fa; rw [p1]; exact decide_eq_false (by omega)] at C2
 have C3 := Lh (fun W => Gw x W h1 h2)
 have h3 := Fj x
 rw [p1, decide_eq_false (by omega)] at h3
 have h5 := Bq x w
 have h6 := Kn x (by omega)
 obtain ⟨t, ht2⟩ : ∃ t, M = 4503599627370496 + t := ⟨M - 4503599627370496, by omega⟩
 rw [show x % 4503599627370496 = t by omega] at h6
 have h7 := H6 (k + 1) (by omega)
 obtain ⟨Q, hQ⟩ : ∃ Q, k + 54 - D = Q := ⟨_, rfl⟩
 have h8 := Ny t Q (by omega) (by omega)
 have e8 : t + Q * 4503599627370496 = v := by
  rw [hv, ht2, ← hQ, show k + 54 - D = (k + 53 - D) + 1 by omega]; omega
 rw [e8] at h8
 have h9 := Bx v w
 have h11 : (binOp BinOp.mul 22 (.float .f64 4368491638549381120) (.float .f64 v)).run Tryz.prog w = .ok (.float .f64 r) w := run_float_arith _ _ _ _ _ _ _ hr
 have k1 : (x : Int) / 4503599627370496 = ((k + 1 : Nat) : Int) := by omega
 have k2 : IntKind.i64.wrap ((k + 1 : Nat) : Int) = ((k + 1 : Nat) : Int) := IntWalk.i64_in _ (by omega)
 have k3 : IntKind.i64.wrap (((k + 1 : Nat) : Int) - 1023) = (k : Int) - 1022 := by rw [IntWalk.i64_in _ (by omega)]; omega
 obtain ⟨X0, hX0⟩ : ∃ X0, -(D : Int) = X0 := ⟨_, rfl⟩
 have k4 : IntKind.i64.wrap X0 = X0 := IntWalk.i64_in _ (by omega)
 have k4' : IntKind.i64.wrap (X0 + 0) = X0 := by rw [Int.add_zero]; exact k4
 have k5 : IntKind.i64.wrap (X0 + ((k : Int) - 1022)) = (Q : Int) - 1076 := by rw [IntWalk.i64_in _ (by omega)]; omega
 have k9 : IntKind.i64.wrap ((Q : Int) - 1076 + 53) = (Q : Int) - 1023 := by rw [IntWalk.i64_in _ (by omega)]; omega
 have k6 : IntKind.i64.wrap ((Q : Int) - 1023 + 1023) = (Q : Int) := by rw [IntWalk.i64_in _ (by omega)]; omega
 have k7 : IntKind.u64.wrap (Q : Int) = (Q : Int) := by rw [IntKind.wrap_u64]; omega
 have k8 : IntKind.u64.wrap ((Q : Int) * 4503599627370496) = ((Q * 4503599627370496 : Nat) : Int) := by rw [IntKind.wrap_u64]; omega
 have t1 : decide ((Q : Int) - 1076 < -1075) = false := decide_eq_false (by omega)
 have t2 : decide (1023 < (Q : Int) - 1076) = false := decide_eq_false (by omega)
 have t3 : decide ((Q : Int) - 1076 < -1022) = true := decide_eq_true (by omega)
 obtain ⟨q, hq⟩ : ∃ q, k + 1 = q := ⟨_, rfl⟩
 obtain ⟨X1, hX1⟩ : ∃ X1, (k : Int) - 1022 = X1 := ⟨_, rfl⟩
 obtain ⟨X3, hX3⟩ : ∃ X3, (Q : Int) - 1076 = X3 := ⟨_, rfl⟩
 obtain ⟨X4, hX4⟩ : ∃ X4, (Q : Int) - 1023 = X4 := ⟨_, rfl⟩
 rw [hq] at h7 k1 k2 k3
 rw [hX1] at k3 k5
 rw [hX3] at k5 k9 t1 t2 t3
 rw [hX4] at k9 k6
 rw [hX0]
 rw [← k8] at h8
 clear h1 h2 hx a1 a2 hD hD2 hv hr p1 p2 p3 ht2 hQ e8 k8 hq hX1 hX0 hX3 hX4
 go_enter Tryz.func224, Tryz.ntmps224
 go_wp2_with fail
 refine Sm (C2.out _) ?_
 go_wp2_with fail
 refine Sm (C1.out _) ?_
 go_wp2_with fail
 refine Sm (C3.out _) ?_
 go_wp2
 go_ret
 exact ⟨rfl, rfl⟩
theorem Abw {y D u : Nat} (h0 : 4503599627370496 ≤ y) (hy : y < 9218868437227405312) (hu0 : 0 < u) (h : Ac u * 2 ^ D = Ac y) (w : World) :
  Cq 224 #[.float .f64 y, .int .i64 (-(D : Int))] (.float .f64 u) w := by
 obtain ⟨M, k, a1, a2, a3, a4⟩ := E9 h0
 have hu1 := Gj.2 hu0
 have huy : u ≤ y := by
  rcases Nat.lt_or_ge y u with h1 | h1
  ·have h2 := Bw h1
   have h3 : Ac u * 1 ≤ Ac u * 2 ^ D := Nat.mul_le_mul_left _ (Nat.two_pow_pos D)
   omega
  ·exact h1
 by_cases hDk : D ≤ k
 ·refine Uz y u a1 a2 a3 hy hDk ?_ w
  refine Ie ?_
  rw [Ay _ _ a1 a2]
  refine (El (x := M) (a := k - D) (b := D) (y := Ac u) ?_).symm
  rw [show k - D + D = k by omega, ← a4, h]
 ·obtain ⟨j, rfl⟩ : ∃ j, D = k + j := ⟨D - k, by omega⟩
  have hM : Ac u * 2 ^ j = M := by
   refine El (x := Ac u) (a := j) (b := k) (y := M) ?_
   rw [Nat.add_comm j k, h, a4]
  have hj : j < 53 := by
   have h3 : 1 * 2 ^ j ≤ Ac u * 2 ^ j := Nat.mul_le_mul_right _ hu1
   have h6 : 2 ^ j < 2 ^ 53 := by have : (2 : Nat) ^ 53 = 9007199254740992 := rfl; omega
   exact (Nat.pow_lt_pow_iff_right (a := 2) (by omega)).1 h6
  refine U0 y ((k + 53 - (k + j)) * 4503599627370496 + M) u a1 a2 a3 hy (by omega) (by omega) rfl ?_ w
  obtain ⟨J, hJ⟩ : ∃ J : Nat, J = 969 := ⟨_, rfl⟩
  obtain ⟨L, hL⟩ : ∃ L : Nat, L = 1074 := ⟨_, rfl⟩
  have e1 := Ay 4503599627370496 J (by omega) (by omega)
  rw [show J * 4503599627370496 + 4503599627370496 = 4368491638549381120 by rw [hJ]] at e1
  refine Lj (K := L) (by omega) (by omega) (by omega) hL ?_
  rw [e1, Ay _ _ a1 a2, ← hM, show (4503599627370496 : Nat) = 2 ^ 52 from rfl, ← Nat.pow_add, Nat.mul_comm, Nat.mul_assoc, Nat.mul_assoc, ← Nat.pow_add, ← Nat.pow_add, show j + (k + 53 - (k + j) + (52 + J)) = L by omega]
theorem Pm {y D u : Nat} (h0 : 4503599627370496 ≤ y) (hy : y < 9218868437227405312) (hu0 : 0 < u) (h : Ac u * 2 ^ D = Ac y) (w : World) :
  Cq 179 #[.float .f64 y, .int .i64 (-(D : Int))] (.float .f64 u) w := by
 have C := Lh (Abw h0 hy hu0 h w)
 obtain ⟨X, hX⟩ : ∃ X, -(D : Int) = X := ⟨_, rfl⟩
 rw [hX] at C ⊢
 clear h0 hy hu0 h hX
 go_enter Tryz.func179, Tryz.ntmps179
 go_wp2_with fail
 refine C.out.mono ?_
 rintro e w' ⟨rfl, rfl⟩
 go_wp2
 go_ret
 exact ⟨rfl, rfl⟩
theorem Ahr {N u : Nat} {e : Int} (hN0 : 0 < N) (hN : N < 9007199254740992) (hu : u < 9218868437227405312) (he : -1074 ≤ e) (h : N * 2 ^ (e + 1074).toNat = Ac u) (w : World) :
  Cp 179 #[.float .f64 (fl N), .int .i64 e] w fun r w' => r = .returned (.float .f64 u) ∧ w = w' := by
 obtain ⟨K, hK⟩ : ∃ K : Nat, K = 1074 := ⟨_, rfl⟩
 obtain ⟨f1, f2⟩ := Nq hN hK
 have f3 := (Ab8 hN0 (Nat.lt_trans hN (by decide))).1
 have hu0 : 0 < u := by
  refine Gj.1 ?_
  rw [← h]
  exact Nat.mul_pos hN0 (Nat.two_pow_pos _)
 by_cases hs : 0 ≤ e
 ·obtain ⟨D, rfl⟩ : ∃ D : Nat, e = D := ⟨e.toNat, by omega⟩
  refine Se (by omega) f2 hu ?_ w
  rw [← h, f1, show ((D : Int) + 1074).toNat = K + D by omega, Nat.pow_add, Nat.mul_assoc]
 ·obtain ⟨D, rfl⟩ : ∃ D : Nat, e = -(D : Int) := ⟨(-e).toNat, by omega⟩
  refine Pm f3 f2 hu0 ?_ w
  rw [← h, f1, Nat.mul_assoc, ← Nat.pow_add, show (-(D : Int) + 1074).toNat + D = K by omega]
theorem O9 (A : Option Addr) (n c : Nat) (ex : Int) (l : List Nat) (w : World) (hn : l.length = n) (hc : n ≤ c) (hm : n ≤ 35184372087808) (h : RW w w.heap.size A l) (hb : btl l = 0) :
  Ct 139 #[.slice A n c, .int .i64 ex] (.float .f64 0) w := by
 have C1 := Lh (Da A n c l w.heap.size w hn hc (by omega) h)
 rw [hb] at C1
 clear hn hc hm h hb
 go_enter Tryz.func139, Tryz.ntmps139
 go_wp2_with fail
 refine C1.out.mono ?_
 rintro e w' ⟨rfl, hbw⟩
 go_wp2
 go_ret
 exact ⟨rfl, hbw⟩
theorem Akg (A : Option Addr) (n c u0 : Nat) (ex : Int) (l : List Nat) (w : World) (hn : l.length = n) (hc : n ≤ c) (hm : n ≤ 35184372087808) (h : RW w w.heap.size A l) (hb : btl l ≤ 53) (hb0 : 0 < btl l) (he1 : -1074 ≤ ex) (he2 : ex ≤ 1023) (htop : (btl l : Int) + ex ≤ 1024) (hcut : ¬ (btl l : Int) - 53 + ex < -1074)
  (C3 : RowKit.Hid (∀ W, Cq 179 #[.float .f64 (fl (val l)), .int .i64 ex] (.float .f64 u0) W)) :
  Ct 139 #[.slice A n c, .int .i64 ex] (.float .f64 u0) w := by
 have C1 := Lh (Da A n c l w.heap.size w hn hc (by omega) h)
 have HWS := Lh h.1
 have h0 : nrm l ≠ [] := by intro e; unfold btl at hb0; rw [if_pos e] at hb0; omega
 obtain ⟨b1, b2, b3⟩ := Bl h.1 h0
 have hv53 : val l < 9007199254740992 := Nat.lt_of_lt_of_le b2 (Nat.le_trans (Nat.pow_le_pow_right (by omega) hb) (by decide))
 have C2 := Lh (fun W (hW : Below w.heap.size w W) => (Bk A n c l W.heap.size W hn hc (by omega) ((h.below hW).more hW.size)).mono (fun e w' x => SlPost.of h.1.nrm x))
 have hnl : (nrm l).length ≤ n := by have := Az l; omega
 have HV : Hid (∀ k, val ((nrm l).drop k) < 9007199254740992) := Lh (fun k => Nat.lt_of_le_of_lt (Ma _ _) (by rw [Ap]; exact hv53))
 have HVN : Hid (val (nrm l) = val l) := Lh (Ap l)
 obtain ⟨u, hu⟩ : ∃ u, fl (val l) = u := ⟨_, rfl⟩
 rw [hu] at C3
 have HU := Lh hu
 obtain ⟨L, hL⟩ : ∃ L, nrm l = L := ⟨_, rfl⟩
 rw [hL] at C2 HV HVN hnl
 obtain ⟨N, hN⟩ : ∃ N, L.length = N := ⟨_, rfl⟩
 rw [hN] at hnl
 have HN := Lh hN
 obtain ⟨m, hm2⟩ : ∃ m, btl l = m := ⟨_, rfl⟩
 rw [hm2] at C1 hb hb0 htop hcut
 have t0 : ((m : Int) == 0) = false := by rw [beq_eq_false_iff_ne]; omega
 have k1 : IntKind.i64.wrap ((m : Int)) = (m : Int) := IntWalk.i64_in _ (by omega)
 obtain ⟨X1, hX1⟩ : ∃ X1, (m : Int) + ex = X1 := ⟨_, rfl⟩
 obtain ⟨X2, hX2⟩ : ∃ X2, (m : Int) - 53 = X2 := ⟨_, rfl⟩
 obtain ⟨X3, hX3⟩ : ∃ X3, -1074 - ex = X3 := ⟨_, rfl⟩
 obtain ⟨X4, hX4⟩ : ∃ X4, X2 + ex = X4 := ⟨_, rfl⟩
 have k2 : IntKind.i64.wrap ((m : Int) + ex) = X1 := by rw [IntWalk.i64_in _ (by omega)]; exact hX1
 have k3 : IntKind.i64.wrap ((m : Int) - 53) = X2 := by rw [IntWalk.i64_in _ (by omega)]; exact hX2
 have k4 : IntKind.i64.wrap (X2 + ex) = X4 := by rw [IntWalk.i64_in _ (by omega)]; exact hX4
 have k5 : IntKind.i64.wrap (-1074 - ex) = X3 := by rw [IntWalk.i64_in _ (by omega)]; exact hX3
 have t1 : decide ((1024 : Int) < X1) = false := decide_eq_false (by omega)
 have t2 : decide (X4 < -1074) = false := decide_eq_false (by omega)
 have t3 : decide (X2 ≤ 0) = true := decide_eq_true (by omega)
 have t4 : X3 ≤ 0 := by omega
 have hnm : N ≤ 35184372087808 := by omega
 clear hn hc hm h hm2 hb hb0 h0 b1 b2 b3 hv53 hu hL hN hnl HWS he1 he2 htop hX1 hX2 hX3 hX4 hcut
 go_enter Tryz.func139, Tryz.ntmps139
 go_wp2_with fail
 refine C1.out.mono ?_
 rintro e w1 ⟨rfl, hbw⟩
 go_wp2_with fail
 refine (C2.out _ hbw).mono ?_
 rintro e w2 ⟨v2, rfl, ⟨A2, c2, rfl, hc2, r2⟩, hb2⟩
 rw [HN.out] at hc2 ⊢
 have HB := Lh (Aa hbw hb2)
 have HR := Lh r2
 have HC2 := Lh hc2
 clear r2 hb2 hbw hc2
 go_wp2
 go_loopw [7, 9] (fun fv iv wr => ∃ (k : Nat), iv = .int .i64 ((k : Int) - 1) ∧ k ≤ N ∧ fv = .float .f64 (fl (val (L.drop k))) ∧ w2 = wr) (fun _ iv _ => (intOf iv + 1).toNat)
 case atStart => exact ⟨N, rfl, Nat.le_refl _, by rw [← HN.out, List.drop_length]; exact congrArg (Value.float .f64) fl_zero.symm, rfl⟩
 case round =>
  obtain ⟨k, rfl, hk, rfl, rfl⟩ := hrel
  by_cases hk0 : k = 0
  ·subst hk0
   have e : fl (val (L.drop 0)) = u := by rw [List.drop_zero, HVN.out]; exact HU.out
   rw [e]
   clear e hk C2 C1
   go_wp2_with fail
   refine Sm (C3.out _) ?_
   go_wp2
   go_ret
   exact ⟨rfl, HB.out⟩
  ·obtain ⟨j, rfl⟩ : ∃ j, k = j + 1 := ⟨k - 1, by omega⟩
   rw [show (((j + 1 : Nat) : Int) - 1) = (j : Int) by omega]
   obtain ⟨ab, ao, rfl, hab, hca⟩ := HR.out.2 (by have := HN.out; omega)
   have hcl := hca j _ (getD_some (by have := HN.out; omega))
   have hyl := HR.out.1.getD j
   have hnx := I7 (l := L) (k := j) (by have := HN.out; omega)
   have hv1 := HV.out j
   have hv2 := HV.out (j + 1)
   obtain ⟨y, hy⟩ : ∃ y, L.getD j 0 = y := ⟨_, rfl⟩
   rw [hy] at hcl hyl hnx
   have HNX := Lh (show fl (val (L.drop j)) = fl (val (L.drop (j + 1)) * 4294967296 + y) by rw [hnx]; congr 1; omega)
   obtain ⟨x, hx⟩ : ∃ x, val (L.drop (j + 1)) = x := ⟨_, rfl⟩
   rw [hx] at hnx hv2 HNX ⊢
   have e32 : fl 4294967296 = 4751297606875873280 := by
    rw [Oe (N := 4294967296) (L := 32) (by decide) (by decide) (by decide)]
   have hmul : (binOp BinOp.mul 22 (.float .f64 (fl x)) (.float .f64 4751297606875873280)).run Tryz.prog w2 = .ok (.float .f64 (fl (x * 4294967296))) w2 := run_float_arith _ _ _ _ _ _ _ (by
    have := Alw (a := x) (b := 4294967296) (by omega) (by omega) (by omega)
    rw [e32] at this
    exact this)
   have hadd : (binOp BinOp.add 22 (.float .f64 (fl (x * 4294967296))) (.float .f64 (floatOfInt FloatKind.f64 (y : Int)))).run Tryz.prog w2 = .ok (.float .f64 (fl (x * 4294967296 + y))) w2 := run_float_arith _ _ _ _ _ _ _ (Aj3 (a := x * 4294967296) (b := y) (by omega) (by omega) (by omega))
   have hjn : (j : Int) < (N : Int) := by omega
   have HJ := Lh hk
   clear hk hk0 hab hca hyl hnx hv1 hv2 hy hx e32 C1 C2 C3
   go_wp2
   go_roundw
   case rel => exact ⟨j, by go_num, by have := HJ.out; omega, by rw [HNX.out], trivial⟩
   case measure => simp [intOf]
theorem Wm (A : Option Addr) (n c u0 : Nat) (ex : Int) (l : List Nat) (w : World) (hn : l.length = n) (hc : n ≤ c) (hm : n ≤ 35184372087808) (h : RW w w.heap.size A l) (hb : btl l ≤ 53) (hb0 : 0 < btl l) (he1 : -1074 ≤ ex) (he2 : ex ≤ 1023) (hcut : (btl l : Int) - 53 + ex < -1074)
  (C3 : RowKit.Hid (∀ W, Cq 179 #[.float .f64 (fl (val l)), .int .i64 ex] (.float .f64 u0) W)) :
  Ct 139 #[.slice A n c, .int .i64 ex] (.float .f64 u0) w := by
 have C1 := Lh (Da A n c l w.heap.size w hn hc (by omega) h)
 have HWS := Lh h.1
 have h0 : nrm l ≠ [] := by intro e; unfold btl at hb0; rw [if_pos e] at hb0; omega
 obtain ⟨b1, b2, b3⟩ := Bl h.1 h0
 have hv53 : val l < 9007199254740992 := Nat.lt_of_lt_of_le b2 (Nat.le_trans (Nat.pow_le_pow_right (by omega) hb) (by decide))
 have C2 := Lh (fun W (hW : Below w.heap.size w W) => (Bk A n c l W.heap.size W hn hc (by omega) ((h.below hW).more hW.size)).mono (fun e w' x => SlPost.of h.1.nrm x))
 have hnl : (nrm l).length ≤ n := by have := Az l; omega
 have HV : Hid (∀ k, val ((nrm l).drop k) < 9007199254740992) := Lh (fun k => Nat.lt_of_le_of_lt (Ma _ _) (by rw [Ap]; exact hv53))
 have HVN : Hid (val (nrm l) = val l) := Lh (Ap l)
 obtain ⟨u, hu⟩ : ∃ u, fl (val l) = u := ⟨_, rfl⟩
 rw [hu] at C3
 have HU := Lh hu
 obtain ⟨L, hL⟩ : ∃ L, nrm l = L := ⟨_, rfl⟩
 rw [hL] at C2 HV HVN hnl
 obtain ⟨N, hN⟩ : ∃ N, L.length = N := ⟨_, rfl⟩
 rw [hN] at hnl
 have HN := Lh hN
 obtain ⟨m, hm2⟩ : ∃ m, btl l = m := ⟨_, rfl⟩
 rw [hm2] at C1 hb hb0 hcut
 have t0 : ((m : Int) == 0) = false := by rw [beq_eq_false_iff_ne]; omega
 have k1 : IntKind.i64.wrap ((m : Int)) = (m : Int) := IntWalk.i64_in _ (by omega)
 obtain ⟨X1, hX1⟩ : ∃ X1, (m : Int) + ex = X1 := ⟨_, rfl⟩
 obtain ⟨X2, hX2⟩ : ∃ X2, (m : Int) - 53 = X2 := ⟨_, rfl⟩
 obtain ⟨X3, hX3⟩ : ∃ X3, -1074 - ex = X3 := ⟨_, rfl⟩
 obtain ⟨X4, hX4⟩ : ∃ X4, X2 + ex = X4 := ⟨_, rfl⟩
 have k2 : IntKind.i64.wrap ((m : Int) + ex) = X1 := by rw [IntWalk.i64_in _ (by omega)]; exact hX1
 have k3 : IntKind.i64.wrap ((m : Int) - 53) = X2 := by rw [IntWalk.i64_in _ (by omega)]; exact hX2
 have k4 : IntKind.i64.wrap (X2 + ex) = X4 := by rw [IntWalk.i64_in _ (by omega)]; exact hX4
 have k5 : IntKind.i64.wrap (-1074 - ex) = X3 := by rw [IntWalk.i64_in _ (by omega)]; exact hX3
 have t1 : decide ((1024 : Int) < X1) = false := decide_eq_false (by omega)
 have t2 : decide (X4 < -1074) = true := decide_eq_true (by omega)
 have t3 : X2 ≤ 0 := by omega
 have t4 : decide (X3 ≤ 0) = true := decide_eq_true (by omega)
 have hnm : N ≤ 35184372087808 := by omega
 clear hn hc hm h hm2 hb hb0 h0 b1 b2 b3 hv53 hu hL hN hnl HWS he1 he2 hX1 hX2 hX3 hX4 hcut
 go_enter Tryz.func139, Tryz.ntmps139
 go_wp2_with fail
 refine C1.out.mono ?_
 rintro e w1 ⟨rfl, hbw⟩
 go_wp2_with fail
 refine (C2.out _ hbw).mono ?_
 rintro e w2 ⟨v2, rfl, ⟨A2, c2, rfl, hc2, r2⟩, hb2⟩
 rw [HN.out] at hc2 ⊢
 have HB := Lh (Aa hbw hb2)
 have HR := Lh r2
 have HC2 := Lh hc2
 clear r2 hb2 hbw hc2
 go_wp2
 go_loopw [7, 9] (fun fv iv wr => ∃ (k : Nat), iv = .int .i64 ((k : Int) - 1) ∧ k ≤ N ∧ fv = .float .f64 (fl (val (L.drop k))) ∧ w2 = wr) (fun _ iv _ => (intOf iv + 1).toNat)
 case atStart => exact ⟨N, rfl, Nat.le_refl _, by rw [← HN.out, List.drop_length]; exact congrArg (Value.float .f64) fl_zero.symm, rfl⟩
 case round =>
  obtain ⟨k, rfl, hk, rfl, rfl⟩ := hrel
  by_cases hk0 : k = 0
  ·subst hk0
   have e : fl (val (L.drop 0)) = u := by rw [List.drop_zero, HVN.out]; exact HU.out
   rw [e]
   clear e hk C2 C1
   go_wp2_with fail
   refine Sm (C3.out _) ?_
   go_wp2
   go_ret
   exact ⟨rfl, HB.out⟩
  ·obtain ⟨j, rfl⟩ : ∃ j, k = j + 1 := ⟨k - 1, by omega⟩
   rw [show (((j + 1 : Nat) : Int) - 1) = (j : Int) by omega]
   obtain ⟨ab, ao, rfl, hab, hca⟩ := HR.out.2 (by have := HN.out; omega)
   have hcl := hca j _ (getD_some (by have := HN.out; omega))
   have hyl := HR.out.1.getD j
   have hnx := I7 (l := L) (k := j) (by have := HN.out; omega)
   have hv1 := HV.out j
   have hv2 := HV.out (j + 1)
   obtain ⟨y, hy⟩ : ∃ y, L.getD j 0 = y := ⟨_, rfl⟩
   rw [hy] at hcl hyl hnx
   have HNX := Lh (show fl (val (L.drop j)) = fl (val (L.drop (j + 1)) * 4294967296 + y) by rw [hnx]; congr 1; omega)
   obtain ⟨x, hx⟩ : ∃ x, val (L.drop (j + 1)) = x := ⟨_, rfl⟩
   rw [hx] at hnx hv2 HNX ⊢
   have e32 : fl 4294967296 = 4751297606875873280 := by
    rw [Oe (N := 4294967296) (L := 32) (by decide) (by decide) (by decide)]
   have hmul : (binOp BinOp.mul 22 (.float .f64 (fl x)) (.float .f64 4751297606875873280)).run Tryz.prog w2 = .ok (.float .f64 (fl (x * 4294967296))) w2 := run_float_arith _ _ _ _ _ _ _ (by
    have := Alw (a := x) (b := 4294967296) (by omega) (by omega) (by omega)
    rw [e32] at this
    exact this)
   have hadd : (binOp BinOp.add 22 (.float .f64 (fl (x * 4294967296))) (.float .f64 (floatOfInt FloatKind.f64 (y : Int)))).run Tryz.prog w2 = .ok (.float .f64 (fl (x * 4294967296 + y))) w2 := run_float_arith _ _ _ _ _ _ _ (Aj3 (a := x * 4294967296) (b := y) (by omega) (by omega) (by omega))
   have hjn : (j : Int) < (N : Int) := by omega
   have HJ := Lh hk
   clear hk hk0 hab hca hyl hnx hv1 hv2 hy hx e32 C1 C2 C3
   go_wp2
   go_roundw
   case rel => exact ⟨j, by go_num, by have := HJ.out; omega, by rw [HNX.out], trivial⟩
   case measure => simp [intOf]
theorem Akj (A : Option Addr) (n c u : Nat) (ex : Int) (l : List Nat) (w : World) (hn : l.length = n) (hc : n ≤ c) (hm : n ≤ 35184372087808) (h : RW w w.heap.size A l) (hv : val l < 9007199254740992) (he1 : -1074 ≤ ex) (he2 : ex ≤ 1023) (hu : u < 9218868437227405312) (hfu : val l * 2 ^ (ex + 1074).toNat = Ac u) :
  Ct 139 #[.slice A n c, .int .i64 ex] (.float .f64 u) w := by
 by_cases h0 : btl l = 0
 ·have h1 : val l = 0 := by
   rw [← Ap l, (Xp h.1).1 h0]; rfl
  have h2 : u = 0 := by
   rw [h1, Nat.zero_mul] at hfu
   rcases Nat.eq_zero_or_pos u with h3 | h3
   ·exact h3
   ·have := Gj.2 h3; omega
  rw [h2]
  exact O9 A n c ex l w hn hc hm h h0
 ·obtain ⟨b1, b2, b3⟩ := Bl h.1 (fun e => h0 ((Xp h.1).2 e))
  have hv0 : 0 < val l := Nat.lt_of_lt_of_le (Nat.two_pow_pos _) b1
  have hb : btl l ≤ 53 := by
   have h6 : 2 ^ (btl l - 1) < 2 ^ 53 := by have : (2 : Nat) ^ 53 = 9007199254740992 := rfl; omega
   have := (Nat.pow_lt_pow_iff_right (a := 2) (by omega)).1 h6
   omega
  have htop : (btl l : Int) + ex ≤ 1024 := by
   obtain ⟨K, hK⟩ : ∃ K : Nat, K = 2098 := ⟨_, rfl⟩
   have h1 := Vt hu K hK
   rw [← hfu] at h1
   have h2 : 2 ^ (btl l - 1) * 2 ^ (ex + 1074).toNat ≤ val l * 2 ^ (ex + 1074).toNat := Nat.mul_le_mul_right _ b1
   rw [← Nat.pow_add] at h2
   have := (Nat.pow_lt_pow_iff_right (a := 2) (by omega)).1 (Nat.lt_of_le_of_lt h2 h1)
   omega
  have C3 := Lh (fun W => Ahr hv0 hv hu he1 hfu W)
  by_cases hcut : (btl l : Int) - 53 + ex < -1074
  ·exact Wm A n c u ex l w hn hc hm h hb (by omega) he1 he2 hcut C3
  ·exact Akg A n c u ex l w hn hc hm h hb (by omega) he1 he2 htop hcut C3
theorem Wv (A : Option Addr) (n c d u : Nat) (ex : Int) (l : List Nat) (w : World) (hn : l.length = n) (hc : n ≤ c) (hm : n ≤ 35184372087808) (h : RW w w.heap.size A l) (hb : btl l = 54 + d) (hd : d ≤ 32768) (he2 : (d : Int) + ex ≤ 970) (he3 : -1075 ≤ (d : Int) + ex)
  (C5 : RowKit.Hid (∀ W, Cq 179 #[.float .f64 (fl (evn (val l) (d + 1))), .int .i64 (ex + (((54 + d : Nat) : Int) - 53))] (.float .f64 u) W)) :
  Ct 139 #[.slice A n c, .int .i64 ex] (.float .f64 u) w := by
 have C1 := Lh (Da A n c l w.heap.size w hn hc (by omega) h)
 have h0 : nrm l ≠ [] := by intro e; unfold btl at hb; rw [if_pos e] at hb; omega
 obtain ⟨b1, b2, b3⟩ := Bl h.1 h0
 rw [hb] at C1 b1 b2
 have C2 := Lh (fun W (hW : Below w.heap.size w W) => Ee A n c (((54 + d : Nat) : Int) - 53) l W hn hc hm ((h.below hW).more hW.size))
 have C3 := Lh (fun W (hW : Below w.heap.size w W) => Ee A n c (((54 + d : Nat) : Int) - 53 - 1) l W hn hc hm ((h.below hW).more hW.size))
 rw [show (((54 + d : Nat) : Int) - 53).toNat = d + 1 by omega] at C2
 rw [show (((54 + d : Nat) : Int) - 53 - 1).toNat = d by omega] at C3
 obtain ⟨v, hv⟩ : ∃ v, val l = v := ⟨_, rfl⟩
 rw [hv] at C2 C3 C5 b1 b2
 have a1 : 2 ^ (52 + (d + 1)) ≤ v := by rw [show 52 + (d + 1) = 54 + d - 1 by omega]; exact b1
 have a2 : v < 2 ^ (52 + (d + 1) + 1) := by rw [show 52 + (d + 1) + 1 = 54 + d by omega]; exact b2
 obtain ⟨r1, r2⟩ := Il a1 a2 (by omega)
 rw [show 52 + (d + 1) - 52 = d + 1 by omega] at r1 r2
 have hq1 : 4503599627370496 ≤ v / 2 ^ (d + 1) := by
  rw [Nat.le_div_iff_mul_le (Nat.two_pow_pos _), show 4503599627370496 = 2 ^ 52 from rfl, ← Nat.pow_add]; exact a1
 have hpq : v / 2 ^ (d + 1) = v / 2 ^ d / 2 := by rw [Nat.pow_succ, Nat.div_div_eq_div_mul]
 have hev := Nv v d
 obtain ⟨E, hE⟩ : ∃ E, evn v (d + 1) = E := ⟨_, rfl⟩
 rw [hE] at C5 r1 r2 hev
 have hPl : v / 2 ^ d < 18446744073709551616 := by
  have : v / 2 ^ d < 2 ^ 54 := by rw [Nat.div_lt_iff_lt_mul (Nat.two_pow_pos _), ← Nat.pow_add]; exact b2
  exact Nat.lt_trans this (by decide)
 obtain ⟨m, hm2⟩ : ∃ m, 54 + d = m := ⟨_, rfl⟩
 rw [hm2] at C1 C2 C3 C5
 have hm3 : 53 < (m : Int) ∧ (m : Int) + ex ≤ 1024 ∧ (m : Int) ≤ 33000 ∧ -1074 ≤ (m : Int) - 53 + ex := by omega
 obtain ⟨m1, m2, m3, m4⟩ := hm3
 obtain ⟨X1, hX1⟩ : ∃ X1, (m : Int) + ex = X1 := ⟨_, rfl⟩
 obtain ⟨X4, hX4⟩ : ∃ X4, (m : Int) - 53 + ex = X4 := ⟨_, rfl⟩
 obtain ⟨X7, hX7⟩ : ∃ X7, ex + ((m : Int) - 53) = X7 := ⟨_, rfl⟩
 rw [hX7] at C5
 have t0 : ((m : Int) == 0) = false := by rw [beq_eq_false_iff_ne]; omega
 have t1 : decide ((1024 : Int) < X1) = false := decide_eq_false (by omega)
 have k1 : IntKind.i64.wrap ((m : Int)) = (m : Int) := IntWalk.i64_in _ (by omega)
 have k2 : IntKind.i64.wrap ((m : Int) + ex) = X1 := by rw [IntWalk.i64_in _ (by omega)]; exact hX1
 have k3 : IntKind.i64.wrap ((m : Int) - 53) = (m : Int) - 53 := IntWalk.i64_in _ (by omega)
 have k4 : IntKind.i64.wrap ((m : Int) - 53 + ex) = X4 := by rw [IntWalk.i64_in _ (by omega)]; exact hX4
 have k5 : IntKind.i64.wrap ((m : Int) + 1) = (m : Int) + 1 := IntWalk.i64_in _ (by omega)
 have k6 : IntKind.i64.wrap ((m : Int) - 53 - 1) = (m : Int) - 53 - 1 := IntWalk.i64_in _ (by omega)
 have k7 : IntKind.i64.wrap (ex + ((m : Int) - 53)) = X7 := by rw [IntWalk.i64_in _ (by omega)]; exact hX7
 have t2 : decide (X4 < -1074) = false := decide_eq_false (by omega)
 have t3 : decide ((m : Int) - 53 ≤ 0) = false := decide_eq_false (by omega)
 have t4 : decide ((m : Int) + 1 < (m : Int) - 53) = false := decide_eq_false (by omega)
 have HEV := Lh hev
 have HR1 := Lh r1
 have HR2 := Lh r2
 clear hn hc hm h hb hd h0 b1 b2 b3 hv a1 a2 hE hev r1 r2 hm2 he2 he3 hX1 hX4 hX7
 unfold ShrQ at C2 C3
 obtain ⟨mo, hmo⟩ : ∃ mo, decide (v % 2 ^ d ≠ 0) = mo := ⟨_, rfl⟩
 obtain ⟨mq, hmq⟩ : ∃ mq, decide (v % 2 ^ (d + 1) ≠ 0) = mq := ⟨_, rfl⟩
 obtain ⟨Q, hQ⟩ : ∃ Q, v / 2 ^ (d + 1) = Q := ⟨_, rfl⟩
 obtain ⟨P, hP⟩ : ∃ P, v / 2 ^ d = P := ⟨_, rfl⟩
 rw [hmq, hQ] at C2
 rw [hmo, hP] at C3
 rw [hmo, hQ, hP] at HEV
 rw [hQ] at hq1 hpq
 rw [hP] at hpq hPl
 clear hmo hmq hQ hP
 obtain ⟨NQ, hNQ⟩ : ∃ NQ, (wds Q).length = NQ := ⟨_, rfl⟩
 obtain ⟨NP, hNP⟩ : ∃ NP, (wds P).length = NP := ⟨_, rfl⟩
 have hNQ0 : 0 < NQ := by rw [← hNQ]; exact M6 (by omega)
 have hNP0 : 0 < NP := by rw [← hNP]; exact M6 (by omega)
 have hNQ2 : NQ ≤ 2 := by
  have := Az (two Q)
  rw [Dr Q (by omega), hNQ] at this
  exact this
 have g1 := Cu (Ax Q)
 have g2 := Cu (Ax P)
 rw [Ad] at g1 g2
 have o1 := E3 (Q % 4294967296) (by omega)
 have o2 := E3 (P % 4294967296) (by omega)
 rw [show Q % 4294967296 % 2 = Q % 2 by omega] at o1
 rw [show P % 4294967296 % 2 = P % 2 by omega] at o2
 obtain ⟨x, hx⟩ : ∃ x, Q % 4294967296 = x := ⟨_, rfl⟩
 obtain ⟨y, hy⟩ : ∃ y, P % 4294967296 = y := ⟨_, rfl⟩
 rw [hx] at g1 o1
 rw [hy] at g2 o2
 have HNQ := Lh hNQ
 have HNP := Lh hNP
 have HNQ2 := Lh hNQ2
 have HQ1 := Lh hq1
 have HPQ := Lh hpq
 have HPL := Lh hPl
 have n1 : decide ((0 : Int) < (NQ : Int)) = true := decide_eq_true (by omega)
 have n2 : decide ((0 : Int) < (NP : Int)) = true := decide_eq_true (by omega)
 have n3 : (0 : Int) < (NQ : Int) := by omega
 have n4 : (0 : Int) < (NP : Int) := by omega
 clear hx hy hNQ hNP hNQ2 hq1 hpq hPl m1 m2 m3 m4
 go_enter Tryz.func139, Tryz.ntmps139
 go_wp2_with fail
 refine C1.out.mono ?_
 rintro e w1 ⟨rfl, hb1⟩
 go_wp2_with fail
 refine (C2.out _ hb1).mono ?_
 rintro e w2 ⟨A2, N2, c2, rfl, rfl, hc2, q2, hb2⟩
 rw [HNQ.out] at hc2 ⊢
 have hb12 := Aa hb1 hb2
 have HC2 := Lh hc2
 clear hc2
 go_wp2_with fail
 refine (C3.out _ hb12).mono ?_
 rintro e w3 ⟨A3, N3, c3, rfl, rfl, hc3, p3, hb3⟩
 rw [HNP.out] at hc3 ⊢
 have HC3 := Lh hc3
 have hb13 := Aa hb12 hb3
 have q3 := q2.step hb3
 have HB := Lh hb13
 have HQ3 := Lh q3
 obtain ⟨ab, ao, rfl, _, hca⟩ := q3.2 (by rw [HNQ.out]; exact hNQ0)
 obtain ⟨pb, po, rfl, _, hcb⟩ := p3.2 (by rw [HNP.out]; exact hNP0)
 have l1 := hca 0 _ (getD_some (by rw [HNQ.out]; exact hNQ0))
 have l2 := hcb 0 _ (getD_some (by rw [HNP.out]; exact hNP0))
 rw [g1, Nat.add_zero] at l1
 rw [g2, Nat.add_zero] at l2
 clear g1 g2 hca hcb q2 q3 p3 hb1 hb2 hb3 hb12 hb13 hc3 C1 C2 C3 hNQ0 hNP0
 cases hpo : decide (P % 2 = 1)
 ·have hp0 : P % 2 = 0 := by have := of_decide_eq_false hpo; omega
  rw [hp0] at o2
  have HE : Hid (E = Q) := Lh (by rw [HEV.out, hpo]; rfl)
  clear hpo hp0 o1
  obtain rfl : Q = E := HE.out.symm
  go_wp2_with fail
  have K1 := Lh (show Cp 191 #[.slice (some ⟨ab, ao, none⟩) NQ c2, .int .i64 1] w3 fun e w' => e = .returned (.int .u64 (Q / 4294967296 : Nat)) ∧ w3 = w' from by
   have := Ao (some ⟨ab, ao, none⟩) NQ c2 1 (wds (Q)) w3.heap.size w3 HNQ.out (by have := HNQ2.out; omega) HQ3.out
   rw [F0 (Ax _), Ad, Nat.mod_eq_of_lt (by have := HR2.out; omega)] at this
   exact this)
  have K0 := Lh (show Cp 191 #[.slice (some ⟨ab, ao, none⟩) NQ c2, .int .i64 0] w3 fun e w' => e = .returned (.int .u64 ((Q) % 4294967296 : Nat)) ∧ w3 = w' from by
   have := Ao (some ⟨ab, ao, none⟩) NQ c2 0 (wds (Q)) w3.heap.size w3 HNQ.out (by have := HNQ2.out; omega) HQ3.out
   rw [Cu (Ax _), Ad] at this
   exact this)
  have hj := Ho ((Q) / 4294967296) ((Q) % 4294967296) (by have := HR2.out; omega) (by omega)
  rw [show (Q) % 4294967296 + (Q) / 4294967296 * 4294967296 = Q by omega] at hj
  obtain ⟨yy, hyy⟩ : ∃ yy, (Q) / 4294967296 = yy := ⟨_, rfl⟩
  obtain ⟨zz, hzz⟩ : ∃ zz, (Q) % 4294967296 = zz := ⟨_, rfl⟩
  rw [hyy] at K1 hj
  rw [hzz] at K0 hj
  obtain ⟨e9, he9⟩ : ∃ e9, Q = e9 := ⟨_, rfl⟩
  rw [he9] at hj C5
  clear hyy hzz he9
  refine K1.out.mono ?_
  rintro e w' ⟨rfl, rfl⟩
  go_wp2_with fail
  refine K0.out.mono ?_
  rintro e w' ⟨rfl, rfl⟩
  go_wp2_with fail
  refine Sm (C5.out _) ?_
  go_wp2
  go_ret
  exact ⟨rfl, HB.out⟩
 ·have hp1 : P % 2 = 1 := of_decide_eq_true hpo
  rw [hp1] at o2
  cases mo
  ·cases hqo : decide (Q % 2 = 1)
   ·have hq0 : Q % 2 = 0 := by have := of_decide_eq_false hqo; omega
    rw [hq0] at o1
    have HE : Hid (E = Q) := Lh (by rw [HEV.out, hpo, hqo]; rfl)
    clear hpo hp1 hqo hq0
    obtain rfl : Q = E := HE.out.symm
    go_wp2_with fail
    have K1 := Lh (show Cp 191 #[.slice (some ⟨ab, ao, none⟩) NQ c2, .int .i64 1] w3 fun e w' => e = .returned (.int .u64 (Q / 4294967296 : Nat)) ∧ w3 = w' from by
     have := Ao (some ⟨ab, ao, none⟩) NQ c2 1 (wds (Q)) w3.heap.size w3 HNQ.out (by have := HNQ2.out; omega) HQ3.out
     rw [F0 (Ax _), Ad, Nat.mod_eq_of_lt (by have := HR2.out; omega)] at this
     exact this)
    have K0 := Lh (show Cp 191 #[.slice (some ⟨ab, ao, none⟩) NQ c2, .int .i64 0] w3 fun e w' => e = .returned (.int .u64 ((Q) % 4294967296 : Nat)) ∧ w3 = w' from by
     have := Ao (some ⟨ab, ao, none⟩) NQ c2 0 (wds (Q)) w3.heap.size w3 HNQ.out (by have := HNQ2.out; omega) HQ3.out
     rw [Cu (Ax _), Ad] at this
     exact this)
    have hj := Ho ((Q) / 4294967296) ((Q) % 4294967296) (by have := HR2.out; omega) (by omega)
    rw [show (Q) % 4294967296 + (Q) / 4294967296 * 4294967296 = Q by omega] at hj
    obtain ⟨yy, hyy⟩ : ∃ yy, (Q) / 4294967296 = yy := ⟨_, rfl⟩
    obtain ⟨zz, hzz⟩ : ∃ zz, (Q) % 4294967296 = zz := ⟨_, rfl⟩
    rw [hyy] at K1 hj
    rw [hzz] at K0 hj
    obtain ⟨e9, he9⟩ : ∃ e9, Q = e9 := ⟨_, rfl⟩
    rw [he9] at hj C5
    clear hyy hzz he9
    refine K1.out.mono ?_
    rintro e w' ⟨rfl, rfl⟩
    go_wp2_with fail
    refine K0.out.mono ?_
    rintro e w' ⟨rfl, rfl⟩
    go_wp2_with fail
    refine Sm (C5.out _) ?_
    go_wp2
    go_ret
    exact ⟨rfl, HB.out⟩
   ·have hq0 : Q % 2 = 1 := of_decide_eq_true hqo
    rw [hq0] at o1
    have HE : Hid (E = Q + 1) := Lh (by rw [HEV.out, hpo, hqo]; rfl)
    clear hpo hp1 hqo hq0
    have C6 := Lh (Fo (some ⟨ab, ao, none⟩) (some ⟨w3.heap.size, 0, none⟩) NQ c2 1 1 (wds Q) [1] (w3.alloc (.cells #[.int .u32 1] 129)) HNQ.out (by have := HNQ2.out; omega) (HQ3.out.step ((Below.refl w3.heap.size w3).alloc (Nat.le_refl _) _)) rfl (by omega) ((O8 w3).more (by simp)))
    rw [Ad, show val [1] = 1 from rfl] at C6
    go_wp2_with fail
    refine C6.out.mono ?_
    rintro e w5 ⟨v5, rfl, ⟨A5, c5, rfl, hc5, r5⟩, b5⟩
    have HB5 := Lh (Aa HB.out (Aa ((Below.refl w3.heap.size w3).alloc (Nat.le_refl _) _) b5))
    obtain ⟨N5, hN5⟩ : ∃ N5, (wds (Q + 1)).length = N5 := ⟨_, rfl⟩
    have hN52 : N5 ≤ 2 := by
     have := Az (two (Q + 1))
     rw [Dr (Q + 1) (by have := HPQ.out; have := HPL.out; omega), hN5] at this
     exact this
    rw [hN5] at hc5 ⊢
    have HN5 := Lh hN5
    have HN52 := Lh hN52
    have HR5 := Lh r5
    clear hc5 r5 b5 hN5 hN52 C6
    go_wp2_with fail
    obtain rfl : E = Q + 1 := HE.out
    have K1 := Lh (show Cp 191 #[.slice A5 N5 c5, .int .i64 1] w5 fun e w' => e = .returned (.int .u64 ((Q + 1) / 4294967296 : Nat)) ∧ w5 = w' from by
     have := Ao A5 N5 c5 1 (wds (Q + 1)) w5.heap.size w5 HN5.out (by have := HN52.out; omega) HR5.out
     rw [F0 (Ax _), Ad, Nat.mod_eq_of_lt (by have := HR2.out; omega)] at this
     exact this)
    have K0 := Lh (show Cp 191 #[.slice A5 N5 c5, .int .i64 0] w5 fun e w' => e = .returned (.int .u64 ((Q + 1) % 4294967296 : Nat)) ∧ w5 = w' from by
     have := Ao A5 N5 c5 0 (wds (Q + 1)) w5.heap.size w5 HN5.out (by have := HN52.out; omega) HR5.out
     rw [Cu (Ax _), Ad] at this
     exact this)
    have hj := Ho ((Q + 1) / 4294967296) ((Q + 1) % 4294967296) (by have := HR2.out; omega) (by omega)
    rw [show (Q + 1) % 4294967296 + (Q + 1) / 4294967296 * 4294967296 = Q + 1 by omega] at hj
    obtain ⟨yy, hyy⟩ : ∃ yy, (Q + 1) / 4294967296 = yy := ⟨_, rfl⟩
    obtain ⟨zz, hzz⟩ : ∃ zz, (Q + 1) % 4294967296 = zz := ⟨_, rfl⟩
    rw [hyy] at K1 hj
    rw [hzz] at K0 hj
    obtain ⟨e9, he9⟩ : ∃ e9, Q + 1 = e9 := ⟨_, rfl⟩
    rw [he9] at hj C5
    clear hyy hzz he9
    refine K1.out.mono ?_
    rintro e w' ⟨rfl, rfl⟩
    go_wp2_with fail
    refine K0.out.mono ?_
    rintro e w' ⟨rfl, rfl⟩
    go_wp2_with fail
    refine Sm (C5.out _) ?_
    go_wp2
    go_ret
    exact ⟨rfl, HB5.out⟩
  ·have HE : Hid (E = Q + 1) := Lh (by rw [HEV.out, hpo]; rfl)
   clear hpo hp1 o1
   have C6 := Lh (Fo (some ⟨ab, ao, none⟩) (some ⟨w3.heap.size, 0, none⟩) NQ c2 1 1 (wds Q) [1] (w3.alloc (.cells #[.int .u32 1] 129)) HNQ.out (by have := HNQ2.out; omega) (HQ3.out.step ((Below.refl w3.heap.size w3).alloc (Nat.le_refl _) _)) rfl (by omega) ((O8 w3).more (by simp)))
   rw [Ad, show val [1] = 1 from rfl] at C6
   go_wp2_with fail
   refine C6.out.mono ?_
   rintro e w5 ⟨v5, rfl, ⟨A5, c5, rfl, hc5, r5⟩, b5⟩
   have HB5 := Lh (Aa HB.out (Aa ((Below.refl w3.heap.size w3).alloc (Nat.le_refl _) _) b5))
   obtain ⟨N5, hN5⟩ : ∃ N5, (wds (Q + 1)).length = N5 := ⟨_, rfl⟩
   have hN52 : N5 ≤ 2 := by
    have := Az (two (Q + 1))
    rw [Dr (Q + 1) (by have := HPQ.out; have := HPL.out; omega), hN5] at this
    exact this
   rw [hN5] at hc5 ⊢
   have HN5 := Lh hN5
   have HN52 := Lh hN52
   have HR5 := Lh r5
   clear hc5 r5 b5 hN5 hN52 C6
   go_wp2_with fail
   obtain rfl : E = Q + 1 := HE.out
   have K1 := Lh (show Cp 191 #[.slice A5 N5 c5, .int .i64 1] w5 fun e w' => e = .returned (.int .u64 ((Q + 1) / 4294967296 : Nat)) ∧ w5 = w' from by
    have := Ao A5 N5 c5 1 (wds (Q + 1)) w5.heap.size w5 HN5.out (by have := HN52.out; omega) HR5.out
    rw [F0 (Ax _), Ad, Nat.mod_eq_of_lt (by have := HR2.out; omega)] at this
    exact this)
   have K0 := Lh (show Cp 191 #[.slice A5 N5 c5, .int .i64 0] w5 fun e w' => e = .returned (.int .u64 ((Q + 1) % 4294967296 : Nat)) ∧ w5 = w' from by
    have := Ao A5 N5 c5 0 (wds (Q + 1)) w5.heap.size w5 HN5.out (by have := HN52.out; omega) HR5.out
    rw [Cu (Ax _), Ad] at this
    exact this)
   have hj := Ho ((Q + 1) / 4294967296) ((Q + 1) % 4294967296) (by have := HR2.out; omega) (by omega)
   rw [show (Q + 1) % 4294967296 + (Q + 1) / 4294967296 * 4294967296 = Q + 1 by omega] at hj
   obtain ⟨yy, hyy⟩ : ∃ yy, (Q + 1) / 4294967296 = yy := ⟨_, rfl⟩
   obtain ⟨zz, hzz⟩ : ∃ zz, (Q + 1) % 4294967296 = zz := ⟨_, rfl⟩
   rw [hyy] at K1 hj
   rw [hzz] at K0 hj
   obtain ⟨e9, he9⟩ : ∃ e9, Q + 1 = e9 := ⟨_, rfl⟩
   rw [he9] at hj C5
   clear hyy hzz he9
   refine K1.out.mono ?_
   rintro e w' ⟨rfl, rfl⟩
   go_wp2_with fail
   refine K0.out.mono ?_
   rintro e w' ⟨rfl, rfl⟩
   go_wp2_with fail
   refine Sm (C5.out _) ?_
   go_wp2
   go_ret
   exact ⟨rfl, HB5.out⟩
theorem Agc (A : Option Addr) (n c d mm u : Nat) (ex : Int) (l : List Nat) (w : World) (hn : l.length = n) (hc : n ≤ c) (hm : n ≤ 35184372087808) (h : RW w w.heap.size A l) (hb : btl l = mm) (hd : d ≤ 32768) (hmm : mm ≤ 32768) (hcut : -1074 - ex = ((d + 1 : Nat) : Int)) (hlo : d + 1 < mm) (hhi : mm < 54 + d)
  (C5 : RowKit.Hid (∀ W, Cq 179 #[.float .f64 (fl (evn (val l) (d + 1))), .int .i64 (ex + ((d + 1 : Nat) : Int))] (.float .f64 u) W)) :
  Ct 139 #[.slice A n c, .int .i64 ex] (.float .f64 u) w := by
 have C1 := Lh (Da A n c l w.heap.size w hn hc (by omega) h)
 have h0 : nrm l ≠ [] := by intro e; unfold btl at hb; rw [if_pos e] at hb; omega
 obtain ⟨b1, b2, b3⟩ := Bl h.1 h0
 rw [hb] at C1 b1 b2
 have C2 := Lh (fun W (hW : Below w.heap.size w W) => Ee A n c ((d + 1 : Nat) : Int) l W hn hc hm ((h.below hW).more hW.size))
 have C3 := Lh (fun W (hW : Below w.heap.size w W) => Ee A n c (((d + 1 : Nat) : Int) - 1) l W hn hc hm ((h.below hW).more hW.size))
 rw [show (((d + 1 : Nat) : Int)).toNat = d + 1 by omega] at C2
 rw [show (((d + 1 : Nat) : Int) - 1).toNat = d by omega] at C3
 obtain ⟨v, hv⟩ : ∃ v, val l = v := ⟨_, rfl⟩
 rw [hv] at C2 C3 C5 b1 b2
 have hq1 : 1 ≤ v / 2 ^ (d + 1) := by
  rw [Nat.le_div_iff_mul_le (Nat.two_pow_pos _), Nat.one_mul]
  exact Nat.le_trans (Nat.pow_le_pow_right (by omega) (by omega)) b1
 have hq2 : v / 2 ^ (d + 1) < 2 ^ 53 := by
  rw [Nat.div_lt_iff_lt_mul (Nat.two_pow_pos _), ← Nat.pow_add]
  exact Nat.lt_of_lt_of_le b2 (Nat.pow_le_pow_right (by omega) (by omega))
 have hq3 : (2 : Nat) ^ 53 = 9007199254740992 := rfl
 have hpq : v / 2 ^ (d + 1) = v / 2 ^ d / 2 := by rw [Nat.pow_succ, Nat.div_div_eq_div_mul]
 have hev := Nv v d
 obtain ⟨E, hE⟩ : ∃ E, evn v (d + 1) = E := ⟨_, rfl⟩
 rw [hE] at C5 hev
 have r1 : 1 ≤ E := by omega
 have r2 : E ≤ 9007199254740992 := by
  rw [hev]
  have : ∀ b : Bool, b.toNat ≤ 1 := by intro b; cases b <;> decide
  have := this (decide (v / 2 ^ d % 2 = 1) && (decide (v % 2 ^ d ≠ 0) || decide (v / 2 ^ (d + 1) % 2 = 1)))
  omega
 have hPl : v / 2 ^ d < 18446744073709551616 := by
  omega
 obtain ⟨m, hm2⟩ : ∃ m, mm = m := ⟨_, rfl⟩
 rw [hm2] at C1
 obtain ⟨X1, hX1⟩ : ∃ X1, (m : Int) + ex = X1 := ⟨_, rfl⟩
 obtain ⟨X2, hX2⟩ : ∃ X2, (m : Int) - 53 = X2 := ⟨_, rfl⟩
 obtain ⟨X4, hX4⟩ : ∃ X4, X2 + ex = X4 := ⟨_, rfl⟩
 obtain ⟨X3, hX3⟩ : ∃ X3, ((d + 1 : Nat) : Int) = X3 := ⟨_, rfl⟩
 obtain ⟨X6, hX6⟩ : ∃ X6, X3 - 1 = X6 := ⟨_, rfl⟩
 obtain ⟨X7, hX7⟩ : ∃ X7, ex + X3 = X7 := ⟨_, rfl⟩
 rw [hX3] at C2 C3 C5 hcut
 rw [hX6] at C3
 rw [hX7] at C5
 have t0 : ((m : Int) == 0) = false := by rw [beq_eq_false_iff_ne]; omega
 have t1 : decide ((1024 : Int) < X1) = false := decide_eq_false (by omega)
 have k1 : IntKind.i64.wrap ((m : Int)) = (m : Int) := IntWalk.i64_in _ (by omega)
 have k2 : IntKind.i64.wrap ((m : Int) + ex) = X1 := by rw [IntWalk.i64_in _ (by omega)]; exact hX1
 have k3 : IntKind.i64.wrap ((m : Int) - 53) = X2 := by rw [IntWalk.i64_in _ (by omega)]; exact hX2
 have k8 : IntKind.i64.wrap (-1074 - ex) = X3 := by rw [IntWalk.i64_in _ (by omega)]; exact hcut
 have k4 : IntKind.i64.wrap (X2 + ex) = X4 := by rw [IntWalk.i64_in _ (by omega)]; exact hX4
 have k5 : IntKind.i64.wrap ((m : Int) + 1) = (m : Int) + 1 := IntWalk.i64_in _ (by omega)
 have k6 : IntKind.i64.wrap (X3 - 1) = X6 := by rw [IntWalk.i64_in _ (by omega)]; exact hX6
 have k7 : IntKind.i64.wrap (ex + X3) = X7 := by rw [IntWalk.i64_in _ (by omega)]; exact hX7
 have t2 : decide (X4 < -1074) = true := decide_eq_true (by omega)
 have t3 : decide (X3 ≤ 0) = false := decide_eq_false (by omega)
 have t4 : decide ((m : Int) + 1 < X3) = false := decide_eq_false (by omega)
 have HEV := Lh hev
 have HR1 := Lh r1
 have HR2 := Lh r2
 clear hn hc hm h hb hd h0 b1 b2 b3 hv hE hev r1 r2 hm2 hmm hcut hlo hhi hq3 hX1 hX2 hX3 hX4 hX6 hX7
 unfold ShrQ at C2 C3
 obtain ⟨mo, hmo⟩ : ∃ mo, decide (v % 2 ^ d ≠ 0) = mo := ⟨_, rfl⟩
 obtain ⟨mq, hmq⟩ : ∃ mq, decide (v % 2 ^ (d + 1) ≠ 0) = mq := ⟨_, rfl⟩
 obtain ⟨Q, hQ⟩ : ∃ Q, v / 2 ^ (d + 1) = Q := ⟨_, rfl⟩
 obtain ⟨P, hP⟩ : ∃ P, v / 2 ^ d = P := ⟨_, rfl⟩
 rw [hmq, hQ] at C2
 rw [hmo, hP] at C3
 rw [hmo, hQ, hP] at HEV
 rw [hQ] at hq1 hq2 hpq
 have hq3 : (2 : Nat) ^ 53 = 9007199254740992 := rfl
 rw [hP] at hpq hPl
 clear hmo hmq hQ hP
 obtain ⟨NQ, hNQ⟩ : ∃ NQ, (wds Q).length = NQ := ⟨_, rfl⟩
 obtain ⟨NP, hNP⟩ : ∃ NP, (wds P).length = NP := ⟨_, rfl⟩
 have hNQ0 : 0 < NQ := by rw [← hNQ]; exact M6 (by omega)
 have hNP0 : 0 < NP := by rw [← hNP]; exact M6 (by omega)
 have hNQ2 : NQ ≤ 2 := by
  have := Az (two Q)
  rw [Dr Q (by omega), hNQ] at this
  exact this
 have g1 := Cu (Ax Q)
 have g2 := Cu (Ax P)
 rw [Ad] at g1 g2
 have o1 := E3 (Q % 4294967296) (by omega)
 have o2 := E3 (P % 4294967296) (by omega)
 rw [show Q % 4294967296 % 2 = Q % 2 by omega] at o1
 rw [show P % 4294967296 % 2 = P % 2 by omega] at o2
 obtain ⟨x, hx⟩ : ∃ x, Q % 4294967296 = x := ⟨_, rfl⟩
 obtain ⟨y, hy⟩ : ∃ y, P % 4294967296 = y := ⟨_, rfl⟩
 rw [hx] at g1 o1
 rw [hy] at g2 o2
 have HNQ := Lh hNQ
 have HNP := Lh hNP
 have HNQ2 := Lh hNQ2
 have HQ1 := Lh hq1
 have HPQ := Lh hpq
 have HPL := Lh hPl
 have n1 : decide ((0 : Int) < (NQ : Int)) = true := decide_eq_true (by omega)
 have n2 : decide ((0 : Int) < (NP : Int)) = true := decide_eq_true (by omega)
 have n3 : (0 : Int) < (NQ : Int) := by omega
 have n4 : (0 : Int) < (NP : Int) := by omega
 clear hx hy hNQ hNP hNQ2 hq1 hq2 hq3 hpq hPl
 go_enter Tryz.func139, Tryz.ntmps139
 go_wp2_with fail
 refine C1.out.mono ?_
 rintro e w1 ⟨rfl, hb1⟩
 go_wp2_with fail
 refine (C2.out _ hb1).mono ?_
 rintro e w2 ⟨A2, N2, c2, rfl, rfl, hc2, q2, hb2⟩
 rw [HNQ.out] at hc2 ⊢
 have hb12 := Aa hb1 hb2
 have HC2 := Lh hc2
 clear hc2
 go_wp2_with fail
 refine (C3.out _ hb12).mono ?_
 rintro e w3 ⟨A3, N3, c3, rfl, rfl, hc3, p3, hb3⟩
 rw [HNP.out] at hc3 ⊢
 have HC3 := Lh hc3
 have hb13 := Aa hb12 hb3
 have q3 := q2.step hb3
 have HB := Lh hb13
 have HQ3 := Lh q3
 obtain ⟨ab, ao, rfl, _, hca⟩ := q3.2 (by rw [HNQ.out]; exact hNQ0)
 obtain ⟨pb, po, rfl, _, hcb⟩ := p3.2 (by rw [HNP.out]; exact hNP0)
 have l1 := hca 0 _ (getD_some (by rw [HNQ.out]; exact hNQ0))
 have l2 := hcb 0 _ (getD_some (by rw [HNP.out]; exact hNP0))
 rw [g1, Nat.add_zero] at l1
 rw [g2, Nat.add_zero] at l2
 clear g1 g2 hca hcb q2 q3 p3 hb1 hb2 hb3 hb12 hb13 hc3 C1 C2 C3 hNQ0 hNP0
 cases hpo : decide (P % 2 = 1)
 ·have hp0 : P % 2 = 0 := by have := of_decide_eq_false hpo; omega
  rw [hp0] at o2
  have HE : Hid (E = Q) := Lh (by rw [HEV.out, hpo]; rfl)
  clear hpo hp0 o1
  obtain rfl : Q = E := HE.out.symm
  go_wp2_with fail
  have K1 := Lh (show Cp 191 #[.slice (some ⟨ab, ao, none⟩) NQ c2, .int .i64 1] w3 fun e w' => e = .returned (.int .u64 (Q / 4294967296 : Nat)) ∧ w3 = w' from by
   have := Ao (some ⟨ab, ao, none⟩) NQ c2 1 (wds (Q)) w3.heap.size w3 HNQ.out (by have := HNQ2.out; omega) HQ3.out
   rw [F0 (Ax _), Ad, Nat.mod_eq_of_lt (by have := HR2.out; omega)] at this
   exact this)
  have K0 := Lh (show Cp 191 #[.slice (some ⟨ab, ao, none⟩) NQ c2, .int .i64 0] w3 fun e w' => e = .returned (.int .u64 ((Q) % 4294967296 : Nat)) ∧ w3 = w' from by
   have := Ao (some ⟨ab, ao, none⟩) NQ c2 0 (wds (Q)) w3.heap.size w3 HNQ.out (by have := HNQ2.out; omega) HQ3.out
   rw [Cu (Ax _), Ad] at this
   exact this)
  have hj := Ho ((Q) / 4294967296) ((Q) % 4294967296) (by have := HR2.out; omega) (by omega)
  rw [show (Q) % 4294967296 + (Q) / 4294967296 * 4294967296 = Q by omega] at hj
  obtain ⟨yy, hyy⟩ : ∃ yy, (Q) / 4294967296 = yy := ⟨_, rfl⟩
  obtain ⟨zz, hzz⟩ : ∃ zz, (Q) % 4294967296 = zz := ⟨_, rfl⟩
  rw [hyy] at K1 hj
  rw [hzz] at K0 hj
  obtain ⟨e9, he9⟩ : ∃ e9, Q = e9 := ⟨_, rfl⟩
  rw [he9] at hj C5
  clear hyy hzz he9
  refine K1.out.mono ?_
  rintro e w' ⟨rfl, rfl⟩
  go_wp2_with fail
  refine K0.out.mono ?_
  rintro e w' ⟨rfl, rfl⟩
  go_wp2_with fail
  refine Sm (C5.out _) ?_
  go_wp2
  go_ret
  exact ⟨rfl, HB.out⟩
 ·have hp1 : P % 2 = 1 := of_decide_eq_true hpo
  rw [hp1] at o2
  cases mo
  ·cases hqo : decide (Q % 2 = 1)
   ·have hq0 : Q % 2 = 0 := by have := of_decide_eq_false hqo; omega
    rw [hq0] at o1
    have HE : Hid (E = Q) := Lh (by rw [HEV.out, hpo, hqo]; rfl)
    clear hpo hp1 hqo hq0
    obtain rfl : Q = E := HE.out.symm
    go_wp2_with fail
    have K1 := Lh (show Cp 191 #[.slice (some ⟨ab, ao, none⟩) NQ c2, .int .i64 1] w3 fun e w' => e = .returned (.int .u64 (Q / 4294967296 : Nat)) ∧ w3 = w' from by
     have := Ao (some ⟨ab, ao, none⟩) NQ c2 1 (wds (Q)) w3.heap.size w3 HNQ.out (by have := HNQ2.out; omega) HQ3.out
     rw [F0 (Ax _), Ad, Nat.mod_eq_of_lt (by have := HR2.out; omega)] at this
     exact this)
    have K0 := Lh (show Cp 191 #[.slice (some ⟨ab, ao, none⟩) NQ c2, .int .i64 0] w3 fun e w' => e = .returned (.int .u64 ((Q) % 4294967296 : Nat)) ∧ w3 = w' from by
     have := Ao (some ⟨ab, ao, none⟩) NQ c2 0 (wds (Q)) w3.heap.size w3 HNQ.out (by have := HNQ2.out; omega) HQ3.out
     rw [Cu (Ax _), Ad] at this
     exact this)
    have hj := Ho ((Q) / 4294967296) ((Q) % 4294967296) (by have := HR2.out; omega) (by omega)
    rw [show (Q) % 4294967296 + (Q) / 4294967296 * 4294967296 = Q by omega] at hj
    obtain ⟨yy, hyy⟩ : ∃ yy, (Q) / 4294967296 = yy := ⟨_, rfl⟩
    obtain ⟨zz, hzz⟩ : ∃ zz, (Q) % 4294967296 = zz := ⟨_, rfl⟩
    rw [hyy] at K1 hj
    rw [hzz] at K0 hj
    obtain ⟨e9, he9⟩ : ∃ e9, Q = e9 := ⟨_, rfl⟩
    rw [he9] at hj C5
    clear hyy hzz he9
    refine K1.out.mono ?_
    rintro e w' ⟨rfl, rfl⟩
    go_wp2_with fail
    refine K0.out.mono ?_
    rintro e w' ⟨rfl, rfl⟩
    go_wp2_with fail
    refine Sm (C5.out _) ?_
    go_wp2
    go_ret
    exact ⟨rfl, HB.out⟩
   ·have hq0 : Q % 2 = 1 := of_decide_eq_true hqo
    rw [hq0] at o1
    have HE : Hid (E = Q + 1) := Lh (by rw [HEV.out, hpo, hqo]; rfl)
    clear hpo hp1 hqo hq0
    have C6 := Lh (Fo (some ⟨ab, ao, none⟩) (some ⟨w3.heap.size, 0, none⟩) NQ c2 1 1 (wds Q) [1] (w3.alloc (.cells #[.int .u32 1] 129)) HNQ.out (by have := HNQ2.out; omega) (HQ3.out.step ((Below.refl w3.heap.size w3).alloc (Nat.le_refl _) _)) rfl (by omega) ((O8 w3).more (by simp)))
    rw [Ad, show val [1] = 1 from rfl] at C6
    go_wp2_with fail
    refine C6.out.mono ?_
    rintro e w5 ⟨v5, rfl, ⟨A5, c5, rfl, hc5, r5⟩, b5⟩
    have HB5 := Lh (Aa HB.out (Aa ((Below.refl w3.heap.size w3).alloc (Nat.le_refl _) _) b5))
    obtain ⟨N5, hN5⟩ : ∃ N5, (wds (Q + 1)).length = N5 := ⟨_, rfl⟩
    have hN52 : N5 ≤ 2 := by
     have := Az (two (Q + 1))
     rw [Dr (Q + 1) (by have := HPQ.out; have := HPL.out; omega), hN5] at this
     exact this
    rw [hN5] at hc5 ⊢
    have HN5 := Lh hN5
    have HN52 := Lh hN52
    have HR5 := Lh r5
    clear hc5 r5 b5 hN5 hN52 C6
    go_wp2_with fail
    obtain rfl : E = Q + 1 := HE.out
    have K1 := Lh (show Cp 191 #[.slice A5 N5 c5, .int .i64 1] w5 fun e w' => e = .returned (.int .u64 ((Q + 1) / 4294967296 : Nat)) ∧ w5 = w' from by
     have := Ao A5 N5 c5 1 (wds (Q + 1)) w5.heap.size w5 HN5.out (by have := HN52.out; omega) HR5.out
     rw [F0 (Ax _), Ad, Nat.mod_eq_of_lt (by have := HR2.out; omega)] at this
     exact this)
    have K0 := Lh (show Cp 191 #[.slice A5 N5 c5, .int .i64 0] w5 fun e w' => e = .returned (.int .u64 ((Q + 1) % 4294967296 : Nat)) ∧ w5 = w' from by
     have := Ao A5 N5 c5 0 (wds (Q + 1)) w5.heap.size w5 HN5.out (by have := HN52.out; omega) HR5.out
     rw [Cu (Ax _), Ad] at this
     exact this)
    have hj := Ho ((Q + 1) / 4294967296) ((Q + 1) % 4294967296) (by have := HR2.out; omega) (by omega)
    rw [show (Q + 1) % 4294967296 + (Q + 1) / 4294967296 * 4294967296 = Q + 1 by omega] at hj
    obtain ⟨yy, hyy⟩ : ∃ yy, (Q + 1) / 4294967296 = yy := ⟨_, rfl⟩
    obtain ⟨zz, hzz⟩ : ∃ zz, (Q + 1) % 4294967296 = zz := ⟨_, rfl⟩
    rw [hyy] at K1 hj
    rw [hzz] at K0 hj
    obtain ⟨e9, he9⟩ : ∃ e9, Q + 1 = e9 := ⟨_, rfl⟩
    rw [he9] at hj C5
    clear hyy hzz he9
    refine K1.out.mono ?_
    rintro e w' ⟨rfl, rfl⟩
    go_wp2_with fail
    refine K0.out.mono ?_
    rintro e w' ⟨rfl, rfl⟩
    go_wp2_with fail
    refine Sm (C5.out _) ?_
    go_wp2
    go_ret
    exact ⟨rfl, HB5.out⟩
  ·have HE : Hid (E = Q + 1) := Lh (by rw [HEV.out, hpo]; rfl)
   clear hpo hp1 o1
   have C6 := Lh (Fo (some ⟨ab, ao, none⟩) (some ⟨w3.heap.size, 0, none⟩) NQ c2 1 1 (wds Q) [1] (w3.alloc (.cells #[.int .u32 1] 129)) HNQ.out (by have := HNQ2.out; omega) (HQ3.out.step ((Below.refl w3.heap.size w3).alloc (Nat.le_refl _) _)) rfl (by omega) ((O8 w3).more (by simp)))
   rw [Ad, show val [1] = 1 from rfl] at C6
   go_wp2_with fail
   refine C6.out.mono ?_
   rintro e w5 ⟨v5, rfl, ⟨A5, c5, rfl, hc5, r5⟩, b5⟩
   have HB5 := Lh (Aa HB.out (Aa ((Below.refl w3.heap.size w3).alloc (Nat.le_refl _) _) b5))
   obtain ⟨N5, hN5⟩ : ∃ N5, (wds (Q + 1)).length = N5 := ⟨_, rfl⟩
   have hN52 : N5 ≤ 2 := by
    have := Az (two (Q + 1))
    rw [Dr (Q + 1) (by have := HPQ.out; have := HPL.out; omega), hN5] at this
    exact this
   rw [hN5] at hc5 ⊢
   have HN5 := Lh hN5
   have HN52 := Lh hN52
   have HR5 := Lh r5
   clear hc5 r5 b5 hN5 hN52 C6
   go_wp2_with fail
   obtain rfl : E = Q + 1 := HE.out
   have K1 := Lh (show Cp 191 #[.slice A5 N5 c5, .int .i64 1] w5 fun e w' => e = .returned (.int .u64 ((Q + 1) / 4294967296 : Nat)) ∧ w5 = w' from by
    have := Ao A5 N5 c5 1 (wds (Q + 1)) w5.heap.size w5 HN5.out (by have := HN52.out; omega) HR5.out
    rw [F0 (Ax _), Ad, Nat.mod_eq_of_lt (by have := HR2.out; omega)] at this
    exact this)
   have K0 := Lh (show Cp 191 #[.slice A5 N5 c5, .int .i64 0] w5 fun e w' => e = .returned (.int .u64 ((Q + 1) % 4294967296 : Nat)) ∧ w5 = w' from by
    have := Ao A5 N5 c5 0 (wds (Q + 1)) w5.heap.size w5 HN5.out (by have := HN52.out; omega) HR5.out
    rw [Cu (Ax _), Ad] at this
    exact this)
   have hj := Ho ((Q + 1) / 4294967296) ((Q + 1) % 4294967296) (by have := HR2.out; omega) (by omega)
   rw [show (Q + 1) % 4294967296 + (Q + 1) / 4294967296 * 4294967296 = Q + 1 by omega] at hj
   obtain ⟨yy, hyy⟩ : ∃ yy, (Q + 1) / 4294967296 = yy := ⟨_, rfl⟩
   obtain ⟨zz, hzz⟩ : ∃ zz, (Q + 1) % 4294967296 = zz := ⟨_, rfl⟩
   rw [hyy] at K1 hj
   rw [hzz] at K0 hj
   obtain ⟨e9, he9⟩ : ∃ e9, Q + 1 = e9 := ⟨_, rfl⟩
   rw [he9] at hj C5
   clear hyy hzz he9
   refine K1.out.mono ?_
   rintro e w' ⟨rfl, rfl⟩
   go_wp2_with fail
   refine K0.out.mono ?_
   rintro e w' ⟨rfl, rfl⟩
   go_wp2_with fail
   refine Sm (C5.out _) ?_
   go_wp2
   go_ret
   exact ⟨rfl, HB5.out⟩
theorem Agf (A : Option Addr) (n c : Nat) (ex : Int) (l : List Nat) (w : World) (hn : l.length = n) (hc : n ≤ c) (hm : n ≤ 35184372087808) (h : RW w w.heap.size A l) (h0 : 0 < btl l) (hb : btl l ≤ 1048576) (he : ex ≤ 1048576) (hx : 1024 < (btl l : Int) + ex) :
  Ct 139 #[.slice A n c, .int .i64 ex] (.float .f64 9218868437227405312) w := by
 have C1 := Lh (Da A n c l w.heap.size w hn hc (by omega) h)
 have C2 := Lh (fun W => Dy W)
 obtain ⟨m, hm2⟩ : ∃ m, btl l = m := ⟨_, rfl⟩
 rw [hm2] at C1 h0 hb hx
 have t0 : ((m : Int) == 0) = false := by rw [beq_eq_false_iff_ne]; omega
 obtain ⟨X1, hX1⟩ : ∃ X1, (m : Int) + ex = X1 := ⟨_, rfl⟩
 have k2 : IntKind.i64.wrap ((m : Int) + ex) = X1 := by rw [IntWalk.i64_in _ (by omega)]; exact hX1
 have t1 : decide ((1024 : Int) < X1) = true := decide_eq_true (by omega)
 clear hn hc hm h hm2 h0 hb he hx hX1
 go_enter Tryz.func139, Tryz.ntmps139
 go_wp2_with fail
 refine C1.out.mono ?_
 rintro e w' ⟨rfl, hbw⟩
 go_wp2_with fail
 refine Sm (C2.out _) ?_
 go_wp2
 go_ret
 exact ⟨rfl, hbw⟩
theorem Af4 (A : Option Addr) (n c : Nat) (ex : Int) (l : List Nat) (w : World) (hn : l.length = n) (hc : n ≤ c) (hm : n ≤ 35184372087808) (h : RW w w.heap.size A l) (h0 : 0 < btl l) (hb : btl l ≤ 1048576) (he : -1048576 ≤ ex) (hx : (btl l : Int) + 1 < -1074 - ex) :
  Ct 139 #[.slice A n c, .int .i64 ex] (.float .f64 0) w := by
 have C1 := Lh (Da A n c l w.heap.size w hn hc (by omega) h)
 obtain ⟨m, hm2⟩ : ∃ m, btl l = m := ⟨_, rfl⟩
 rw [hm2] at C1 h0 hb hx
 have t0 : ((m : Int) == 0) = false := by rw [beq_eq_false_iff_ne]; omega
 obtain ⟨X1, hX1⟩ : ∃ X1, (m : Int) + ex = X1 := ⟨_, rfl⟩
 obtain ⟨X2, hX2⟩ : ∃ X2, (m : Int) - 53 = X2 := ⟨_, rfl⟩
 obtain ⟨X3, hX3⟩ : ∃ X3, -1074 - ex = X3 := ⟨_, rfl⟩
 obtain ⟨X4, hX4⟩ : ∃ X4, X2 + ex = X4 := ⟨_, rfl⟩
 have k2 : IntKind.i64.wrap ((m : Int) + ex) = X1 := by rw [IntWalk.i64_in _ (by omega)]; exact hX1
 have k3 : IntKind.i64.wrap ((m : Int) - 53) = X2 := by rw [IntWalk.i64_in _ (by omega)]; exact hX2
 have k4 : IntKind.i64.wrap (X2 + ex) = X4 := by rw [IntWalk.i64_in _ (by omega)]; exact hX4
 have k5 : IntKind.i64.wrap (-1074 - ex) = X3 := by rw [IntWalk.i64_in _ (by omega)]; exact hX3
 have k6 : IntKind.i64.wrap ((m : Int) + 1) = (m : Int) + 1 := IntWalk.i64_in _ (by omega)
 have t1 : decide ((1024 : Int) < X1) = false := decide_eq_false (by omega)
 have t2 : decide (X4 < -1074) = true := decide_eq_true (by omega)
 have t3 : decide (X3 ≤ 0) = false := decide_eq_false (by omega)
 have t4 : decide ((m : Int) + 1 < X3) = true := decide_eq_true (by omega)
 clear hn hc hm h hm2 h0 hb he hx hX1 hX2 hX3 hX4
 go_enter Tryz.func139, Tryz.ntmps139
 go_wp2_with fail
 refine C1.out.mono ?_
 rintro e w' ⟨rfl, hbw⟩
 go_wp2
 go_ret
 exact ⟨rfl, hbw⟩
/-   One half and perhaps more, or less than a half: no bit of the quotient stands. -/
theorem Aai (A : Option Addr) (n c d mm u : Nat) (ex : Int) (l : List Nat) (w : World) (hn : l.length = n) (hc : n ≤ c) (hm : n ≤ 35184372087808) (h : RW w w.heap.size A l) (hb : btl l = mm) (hd : d ≤ 32768) (hmm : 0 < mm) (hcut : -1074 - ex = ((d + 1 : Nat) : Int)) (hlo : d = mm) 
  (C5 : RowKit.Hid (∀ W, Cq 179 #[.float .f64 0, .int .i64 (ex + ((d + 1 : Nat) : Int))] (.float .f64 u) W)) :
  Ct 139 #[.slice A n c, .int .i64 ex] (.float .f64 u) w := by
 have C1 := Lh (Da A n c l w.heap.size w hn hc (by omega) h)
 have h0 : nrm l ≠ [] := by intro e; unfold btl at hb; rw [if_pos e] at hb; omega
 obtain ⟨b1, b2, b3⟩ := Bl h.1 h0
 rw [hb] at C1 b1 b2
 have C2 := Lh (fun W (hW : Below w.heap.size w W) => Ee A n c ((d + 1 : Nat) : Int) l W hn hc hm ((h.below hW).more hW.size))
 have C3 := Lh (fun W (hW : Below w.heap.size w W) => Ee A n c (((d + 1 : Nat) : Int) - 1) l W hn hc hm ((h.below hW).more hW.size))
 rw [show (((d + 1 : Nat) : Int)).toNat = d + 1 by omega] at C2
 rw [show (((d + 1 : Nat) : Int) - 1).toNat = d by omega] at C3
 obtain ⟨v, hv⟩ : ∃ v, val l = v := ⟨_, rfl⟩
 rw [hv] at C2 C3 b1 b2
 have z1 : v / 2 ^ (d + 1) = 0 := Nat.div_eq_of_lt (Nat.lt_of_lt_of_le b2 (Nat.pow_le_pow_right (by omega) (by omega)))
 have z2 : v / 2 ^ d = 0 := Nat.div_eq_of_lt (by rw [hlo]; exact b2)
 unfold ShrQ at C2 C3
 rw [z1] at C2
 rw [z2] at C3
 rw [show (wds 0).length = 0 by decide] at C2 C3
 obtain ⟨mo, hmo⟩ : ∃ mo, decide (v % 2 ^ d ≠ 0) = mo := ⟨_, rfl⟩
 obtain ⟨mq, hmq⟩ : ∃ mq, decide (v % 2 ^ (d + 1) ≠ 0) = mq := ⟨_, rfl⟩
 rw [hmq] at C2
 rw [hmo] at C3
 clear hv z1 z2 hmo hmq
 obtain ⟨m, hm2⟩ : ∃ m, mm = m := ⟨_, rfl⟩
 rw [hm2] at C1
 obtain ⟨X1, hX1⟩ : ∃ X1, (m : Int) + ex = X1 := ⟨_, rfl⟩
 obtain ⟨X2, hX2⟩ : ∃ X2, (m : Int) - 53 = X2 := ⟨_, rfl⟩
 obtain ⟨X4, hX4⟩ : ∃ X4, X2 + ex = X4 := ⟨_, rfl⟩
 obtain ⟨X3, hX3⟩ : ∃ X3, ((d + 1 : Nat) : Int) = X3 := ⟨_, rfl⟩
 obtain ⟨X6, hX6⟩ : ∃ X6, X3 - 1 = X6 := ⟨_, rfl⟩
 obtain ⟨X7, hX7⟩ : ∃ X7, ex + X3 = X7 := ⟨_, rfl⟩
 rw [hX3] at C2 C3 C5 hcut
 rw [hX6] at C3
 rw [hX7] at C5
 have t0 : ((m : Int) == 0) = false := by rw [beq_eq_false_iff_ne]; omega
 have t1 : decide ((1024 : Int) < X1) = false := decide_eq_false (by omega)
 have k1 : IntKind.i64.wrap ((m : Int)) = (m : Int) := IntWalk.i64_in _ (by omega)
 have k2 : IntKind.i64.wrap ((m : Int) + ex) = X1 := by rw [IntWalk.i64_in _ (by omega)]; exact hX1
 have k3 : IntKind.i64.wrap ((m : Int) - 53) = X2 := by rw [IntWalk.i64_in _ (by omega)]; exact hX2
 have k8 : IntKind.i64.wrap (-1074 - ex) = X3 := by rw [IntWalk.i64_in _ (by omega)]; exact hcut
 have k4 : IntKind.i64.wrap (X2 + ex) = X4 := by rw [IntWalk.i64_in _ (by omega)]; exact hX4
 have k5 : IntKind.i64.wrap ((m : Int) + 1) = (m : Int) + 1 := IntWalk.i64_in _ (by omega)
 have k6 : IntKind.i64.wrap (X3 - 1) = X6 := by rw [IntWalk.i64_in _ (by omega)]; exact hX6
 have k7 : IntKind.i64.wrap (ex + X3) = X7 := by rw [IntWalk.i64_in _ (by omega)]; exact hX7
 have t2 : decide (X4 < -1074) = true := decide_eq_true (by omega)
 have t3 : decide (X3 ≤ 0) = false := decide_eq_false (by omega)
 have t4 : decide ((m : Int) + 1 < X3) = false := decide_eq_false (by omega)
 clear hn hc hm h hb hd h0 b1 b2 b3 hm2 hmm hcut hlo hX1 hX2 hX3 hX4 hX6 hX7
 go_enter Tryz.func139, Tryz.ntmps139
 go_wp2_with fail
 refine C1.out.mono ?_
 rintro e w1 ⟨rfl, hb1⟩
 go_wp2_with fail
 refine (C2.out _ hb1).mono ?_
 rintro e w2 ⟨A2, N2, c2, rfl, hN2, hc2, q2, hb2⟩
 obtain rfl : N2 = 0 := hN2
 have hb12 := Aa hb1 hb2
 have HC2 := Lh hc2
 clear hc2
 go_wp2_with fail
 refine (C3.out _ hb12).mono ?_
 rintro e w3 ⟨A3, N3, c3, rfl, hN3, hc3, p3, hb3⟩
 have HB := Lh (Aa hb12 hb3)
 have HQ3 := Lh (q2.step hb3)
 have HC3 := Lh hc3
 obtain rfl : N3 = 0 := hN3
 clear hb1 hb2 hb3 hb12 hc3 q2 p3 C1 C2 C3
 have K1 := Lh (show Cp 191 #[.slice A2 0 c2, .int .i64 1] w3 fun e w' => e = .returned (.int .u64 0) ∧ w3 = w' from Ao A2 0 c2 1 (wds 0) w3.heap.size w3 rfl (by omega) HQ3.out)
 have K0 := Lh (show Cp 191 #[.slice A2 0 c2, .int .i64 0] w3 fun e w' => e = .returned (.int .u64 0) ∧ w3 = w' from Ao A2 0 c2 0 (wds 0) w3.heap.size w3 rfl (by omega) HQ3.out)
 go_wp2_with fail
 refine K1.out.mono ?_
 rintro e w' ⟨rfl, rfl⟩
 go_wp2_with fail
 refine K0.out.mono ?_
 rintro e w' ⟨rfl, rfl⟩
 go_wp2_with fail
 refine Sm (C5.out _) ?_
 go_wp2
 go_ret
 exact ⟨rfl, HB.out⟩
theorem Aa9 (A : Option Addr) (n c d mm u : Nat) (ex : Int) (l : List Nat) (w : World) (hn : l.length = n) (hc : n ≤ c) (hm : n ≤ 35184372087808) (h : RW w w.heap.size A l) (hb : btl l = mm) (hd : d ≤ 32768) (hmm : 0 < mm) (hcut : -1074 - ex = ((d + 1 : Nat) : Int)) (hlo : d + 1 = mm) (hmo0 : decide (val l % 2 ^ d ≠ 0) = false)
  (C5 : RowKit.Hid (∀ W, Cq 179 #[.float .f64 0, .int .i64 (ex + ((d + 1 : Nat) : Int))] (.float .f64 u) W)) :
  Ct 139 #[.slice A n c, .int .i64 ex] (.float .f64 u) w := by
 have C1 := Lh (Da A n c l w.heap.size w hn hc (by omega) h)
 have h0 : nrm l ≠ [] := by intro e; unfold btl at hb; rw [if_pos e] at hb; omega
 obtain ⟨b1, b2, b3⟩ := Bl h.1 h0
 rw [hb] at C1 b1 b2
 have C2 := Lh (fun W (hW : Below w.heap.size w W) => Ee A n c ((d + 1 : Nat) : Int) l W hn hc hm ((h.below hW).more hW.size))
 have C3 := Lh (fun W (hW : Below w.heap.size w W) => Ee A n c (((d + 1 : Nat) : Int) - 1) l W hn hc hm ((h.below hW).more hW.size))
 rw [show (((d + 1 : Nat) : Int)).toNat = d + 1 by omega] at C2
 rw [show (((d + 1 : Nat) : Int) - 1).toNat = d by omega] at C3
 obtain ⟨v, hv⟩ : ∃ v, val l = v := ⟨_, rfl⟩
 rw [hv] at C2 C3 b1 b2 hmo0
 have z1 : v / 2 ^ (d + 1) = 0 := Nat.div_eq_of_lt (by rw [hlo]; exact b2)
 have z2 : v / 2 ^ d = 1 := by
  have e1 : 2 ^ d ≤ v := by rw [show d = mm - 1 by omega]; exact b1
  have e2 : v < 2 * 2 ^ d := by rw [Nat.mul_comm, ← Nat.pow_succ, show d.succ = mm by omega]; exact b2
  have l1 : 1 ≤ v / 2 ^ d := (Nat.le_div_iff_mul_le (Nat.two_pow_pos d)).2 (by omega)
  have l2 : v / 2 ^ d < 2 := (Nat.div_lt_iff_lt_mul (Nat.two_pow_pos d)).2 e2
  omega
 unfold ShrQ at C2 C3
 rw [z1] at C2
 rw [z2] at C3
 rw [show (wds 0).length = 0 by decide] at C2
 rw [show (wds 1).length = 1 by decide] at C3
 obtain ⟨mo, hmo⟩ : ∃ mo, decide (v % 2 ^ d ≠ 0) = mo := ⟨_, rfl⟩
 obtain ⟨mq, hmq⟩ : ∃ mq, decide (v % 2 ^ (d + 1) ≠ 0) = mq := ⟨_, rfl⟩
 rw [hmq] at C2
 rw [hmo] at C3 hmo0
 have o2 := E3 1 (by omega)
 clear hv z1 z2 hmo hmq
 subst hmo0
 obtain ⟨m, hm2⟩ : ∃ m, mm = m := ⟨_, rfl⟩
 rw [hm2] at C1
 obtain ⟨X1, hX1⟩ : ∃ X1, (m : Int) + ex = X1 := ⟨_, rfl⟩
 obtain ⟨X2, hX2⟩ : ∃ X2, (m : Int) - 53 = X2 := ⟨_, rfl⟩
 obtain ⟨X4, hX4⟩ : ∃ X4, X2 + ex = X4 := ⟨_, rfl⟩
 obtain ⟨X3, hX3⟩ : ∃ X3, ((d + 1 : Nat) : Int) = X3 := ⟨_, rfl⟩
 obtain ⟨X6, hX6⟩ : ∃ X6, X3 - 1 = X6 := ⟨_, rfl⟩
 obtain ⟨X7, hX7⟩ : ∃ X7, ex + X3 = X7 := ⟨_, rfl⟩
 rw [hX3] at C2 C3 C5 hcut
 rw [hX6] at C3
 rw [hX7] at C5
 have t0 : ((m : Int) == 0) = false := by rw [beq_eq_false_iff_ne]; omega
 have t1 : decide ((1024 : Int) < X1) = false := decide_eq_false (by omega)
 have k1 : IntKind.i64.wrap ((m : Int)) = (m : Int) := IntWalk.i64_in _ (by omega)
 have k2 : IntKind.i64.wrap ((m : Int) + ex) = X1 := by rw [IntWalk.i64_in _ (by omega)]; exact hX1
 have k3 : IntKind.i64.wrap ((m : Int) - 53) = X2 := by rw [IntWalk.i64_in _ (by omega)]; exact hX2
 have k8 : IntKind.i64.wrap (-1074 - ex) = X3 := by rw [IntWalk.i64_in _ (by omega)]; exact hcut
 have k4 : IntKind.i64.wrap (X2 + ex) = X4 := by rw [IntWalk.i64_in _ (by omega)]; exact hX4
 have k5 : IntKind.i64.wrap ((m : Int) + 1) = (m : Int) + 1 := IntWalk.i64_in _ (by omega)
 have k6 : IntKind.i64.wrap (X3 - 1) = X6 := by rw [IntWalk.i64_in _ (by omega)]; exact hX6
 have k7 : IntKind.i64.wrap (ex + X3) = X7 := by rw [IntWalk.i64_in _ (by omega)]; exact hX7
 have t2 : decide (X4 < -1074) = true := decide_eq_true (by omega)
 have t3 : decide (X3 ≤ 0) = false := decide_eq_false (by omega)
 have t4 : decide ((m : Int) + 1 < X3) = false := decide_eq_false (by omega)
 clear hn hc hm h hb hd h0 b1 b2 b3 hm2 hmm hcut hlo hX1 hX2 hX3 hX4 hX6 hX7
 go_enter Tryz.func139, Tryz.ntmps139
 go_wp2_with fail
 refine C1.out.mono ?_
 rintro e w1 ⟨rfl, hb1⟩
 go_wp2_with fail
 refine (C2.out _ hb1).mono ?_
 rintro e w2 ⟨A2, N2, c2, rfl, hN2, hc2, q2, hb2⟩
 obtain rfl : N2 = 0 := hN2
 have hb12 := Aa hb1 hb2
 have HC2 := Lh hc2
 clear hc2
 go_wp2_with fail
 refine (C3.out _ hb12).mono ?_
 rintro e w3 ⟨A3, N3, c3, rfl, hN3, hc3, p3, hb3⟩
 have HB := Lh (Aa hb12 hb3)
 have HQ3 := Lh (q2.step hb3)
 have HC3 := Lh hc3
 obtain rfl : N3 = 1 := hN3
 obtain ⟨pb, po, rfl, _, hcb⟩ := p3.2 (by rw [show (wds 1).length = 1 by decide]; omega)
 have l2 := hcb 0 1 (by decide)
 rw [Nat.add_zero] at l2
 clear hb1 hb2 hb3 hb12 hc3 q2 p3 C1 C2 C3 hcb
 have K1 := Lh (show Cp 191 #[.slice A2 0 c2, .int .i64 1] w3 fun e w' => e = .returned (.int .u64 0) ∧ w3 = w' from Ao A2 0 c2 1 (wds 0) w3.heap.size w3 rfl (by omega) HQ3.out)
 have K0 := Lh (show Cp 191 #[.slice A2 0 c2, .int .i64 0] w3 fun e w' => e = .returned (.int .u64 0) ∧ w3 = w' from Ao A2 0 c2 0 (wds 0) w3.heap.size w3 rfl (by omega) HQ3.out)
 go_wp2_with fail
 refine K1.out.mono ?_
 rintro e w' ⟨rfl, rfl⟩
 go_wp2_with fail
 refine K0.out.mono ?_
 rintro e w' ⟨rfl, rfl⟩
 go_wp2_with fail
 refine Sm (C5.out _) ?_
 go_wp2
 go_ret
 exact ⟨rfl, HB.out⟩
theorem All (A : Option Addr) (n c d mm u : Nat) (ex : Int) (l : List Nat) (w : World) (hn : l.length = n) (hc : n ≤ c) (hm : n ≤ 35184372087808) (h : RW w w.heap.size A l) (hb : btl l = mm) (hd : d ≤ 32768) (hmm : 0 < mm) (hcut : -1074 - ex = ((d + 1 : Nat) : Int)) (hlo : d + 1 = mm) (hmo0 : decide (val l % 2 ^ d ≠ 0) = true)
  (C5 : RowKit.Hid (∀ W, Cq 179 #[.float .f64 (fl 1), .int .i64 (ex + ((d + 1 : Nat) : Int))] (.float .f64 u) W)) :
  Ct 139 #[.slice A n c, .int .i64 ex] (.float .f64 u) w := by
 have C1 := Lh (Da A n c l w.heap.size w hn hc (by omega) h)
 have h0 : nrm l ≠ [] := by intro e; unfold btl at hb; rw [if_pos e] at hb; omega
 obtain ⟨b1, b2, b3⟩ := Bl h.1 h0
 rw [hb] at C1 b1 b2
 have C2 := Lh (fun W (hW : Below w.heap.size w W) => Ee A n c ((d + 1 : Nat) : Int) l W hn hc hm ((h.below hW).more hW.size))
 have C3 := Lh (fun W (hW : Below w.heap.size w W) => Ee A n c (((d + 1 : Nat) : Int) - 1) l W hn hc hm ((h.below hW).more hW.size))
 rw [show (((d + 1 : Nat) : Int)).toNat = d + 1 by omega] at C2
 rw [show (((d + 1 : Nat) : Int) - 1).toNat = d by omega] at C3
 obtain ⟨v, hv⟩ : ∃ v, val l = v := ⟨_, rfl⟩
 rw [hv] at C2 C3 b1 b2 hmo0
 have z1 : v / 2 ^ (d + 1) = 0 := Nat.div_eq_of_lt (by rw [hlo]; exact b2)
 have z2 : v / 2 ^ d = 1 := by
  have e1 : 2 ^ d ≤ v := by rw [show d = mm - 1 by omega]; exact b1
  have e2 : v < 2 * 2 ^ d := by rw [Nat.mul_comm, ← Nat.pow_succ, show d.succ = mm by omega]; exact b2
  have l1 : 1 ≤ v / 2 ^ d := (Nat.le_div_iff_mul_le (Nat.two_pow_pos d)).2 (by omega)
  have l2 : v / 2 ^ d < 2 := (Nat.div_lt_iff_lt_mul (Nat.two_pow_pos d)).2 e2
  omega
 unfold ShrQ at C2 C3
 rw [z1] at C2
 rw [z2] at C3
 rw [show (wds 0).length = 0 by decide] at C2
 rw [show (wds 1).length = 1 by decide] at C3
 obtain ⟨mo, hmo⟩ : ∃ mo, decide (v % 2 ^ d ≠ 0) = mo := ⟨_, rfl⟩
 obtain ⟨mq, hmq⟩ : ∃ mq, decide (v % 2 ^ (d + 1) ≠ 0) = mq := ⟨_, rfl⟩
 rw [hmq] at C2
 rw [hmo] at C3 hmo0
 have o2 := E3 1 (by omega)
 clear hv z1 z2 hmo hmq
 subst hmo0
 obtain ⟨m, hm2⟩ : ∃ m, mm = m := ⟨_, rfl⟩
 rw [hm2] at C1
 obtain ⟨X1, hX1⟩ : ∃ X1, (m : Int) + ex = X1 := ⟨_, rfl⟩
 obtain ⟨X2, hX2⟩ : ∃ X2, (m : Int) - 53 = X2 := ⟨_, rfl⟩
 obtain ⟨X4, hX4⟩ : ∃ X4, X2 + ex = X4 := ⟨_, rfl⟩
 obtain ⟨X3, hX3⟩ : ∃ X3, ((d + 1 : Nat) : Int) = X3 := ⟨_, rfl⟩
 obtain ⟨X6, hX6⟩ : ∃ X6, X3 - 1 = X6 := ⟨_, rfl⟩
 obtain ⟨X7, hX7⟩ : ∃ X7, ex + X3 = X7 := ⟨_, rfl⟩
 rw [hX3] at C2 C3 C5 hcut
 rw [hX6] at C3
 rw [hX7] at C5
 have t0 : ((m : Int) == 0) = false := by rw [beq_eq_false_iff_ne]; omega
 have t1 : decide ((1024 : Int) < X1) = false := decide_eq_false (by omega)
 have k1 : IntKind.i64.wrap ((m : Int)) = (m : Int) := IntWalk.i64_in _ (by omega)
 have k2 : IntKind.i64.wrap ((m : Int) + ex) = X1 := by rw [IntWalk.i64_in _ (by omega)]; exact hX1
 have k3 : IntKind.i64.wrap ((m : Int) - 53) = X2 := by rw [IntWalk.i64_in _ (by omega)]; exact hX2
 have k8 : IntKind.i64.wrap (-1074 - ex) = X3 := by rw [IntWalk.i64_in _ (by omega)]; exact hcut
 have k4 : IntKind.i64.wrap (X2 + ex) = X4 := by rw [IntWalk.i64_in _ (by omega)]; exact hX4
 have k5 : IntKind.i64.wrap ((m : Int) + 1) = (m : Int) + 1 := IntWalk.i64_in _ (by omega)
 have k6 : IntKind.i64.wrap (X3 - 1) = X6 := by rw [IntWalk.i64_in _ (by omega)]; exact hX6
 have k7 : IntKind.i64.wrap (ex + X3) = X7 := by rw [IntWalk.i64_in _ (by omega)]; exact hX7
 have t2 : decide (X4 < -1074) = true := decide_eq_true (by omega)
 have t3 : decide (X3 ≤ 0) = false := decide_eq_false (by omega)
 have t4 : decide ((m : Int) + 1 < X3) = false := decide_eq_false (by omega)
 clear hn hc hm h hb hd h0 b1 b2 b3 hm2 hmm hcut hlo hX1 hX2 hX3 hX4 hX6 hX7
 go_enter Tryz.func139, Tryz.ntmps139
 go_wp2_with fail
 refine C1.out.mono ?_
 rintro e w1 ⟨rfl, hb1⟩
 go_wp2_with fail
 refine (C2.out _ hb1).mono ?_
 rintro e w2 ⟨A2, N2, c2, rfl, hN2, hc2, q2, hb2⟩
 obtain rfl : N2 = 0 := hN2
 have hb12 := Aa hb1 hb2
 have HC2 := Lh hc2
 clear hc2
 go_wp2_with fail
 refine (C3.out _ hb12).mono ?_
 rintro e w3 ⟨A3, N3, c3, rfl, hN3, hc3, p3, hb3⟩
 have HB := Lh (Aa hb12 hb3)
 have HQ3 := Lh (q2.step hb3)
 have HC3 := Lh hc3
 obtain rfl : N3 = 1 := hN3
 obtain ⟨pb, po, rfl, _, hcb⟩ := p3.2 (by rw [show (wds 1).length = 1 by decide]; omega)
 have l2 := hcb 0 1 (by decide)
 rw [Nat.add_zero] at l2
 clear hb1 hb2 hb3 hb12 hc3 q2 p3 C1 C2 C3 hcb
 have C6 := Lh (Fo A2 (some ⟨w3.heap.size, 0, none⟩) 0 c2 1 1 (wds 0) [1] (w3.alloc (.cells #[.int .u32 1] 129)) (by decide) (by omega) (HQ3.out.step ((Below.refl w3.heap.size w3).alloc (Nat.le_refl _) _)) rfl (by omega) ((O8 w3).more (by simp)))
 rw [Ad, show val [1] = 1 from rfl] at C6
 go_wp2_with fail
 refine C6.out.mono ?_
 rintro e w5 ⟨v5, rfl, ⟨A5, c5, rfl, hc5, r5⟩, b5⟩
 have HB5 := Lh (Aa HB.out (Aa ((Below.refl w3.heap.size w3).alloc (Nat.le_refl _) _) b5))
 rw [show (wds (0 + 1)).length = 1 by decide] at hc5 ⊢
 have HR5 := Lh r5
 clear hc5 r5 b5 C6
 go_wp2_with fail
 have K1 := Lh (show Cp 191 #[.slice A5 1 c5, .int .i64 1] w5 fun e w' => e = .returned (.int .u64 0) ∧ w5 = w' from Ao A5 1 c5 1 (wds (0 + 1)) w5.heap.size w5 (by decide) (by omega) HR5.out)
 have K0 := Lh (show Cp 191 #[.slice A5 1 c5, .int .i64 0] w5 fun e w' => e = .returned (.int .u64 1) ∧ w5 = w' from Ao A5 1 c5 0 (wds (0 + 1)) w5.heap.size w5 (by decide) (by omega) HR5.out)
 refine K1.out.mono ?_
 rintro e w' ⟨rfl, rfl⟩
 go_wp2_with fail
 refine K0.out.mono ?_
 rintro e w' ⟨rfl, rfl⟩
 go_wp2_with fail
 refine Sm (C5.out _) ?_
 go_wp2
 go_ret
 exact ⟨rfl, HB5.out⟩
theorem Ac3 {N K : Nat} (h : N ≤ 9007199254740992) (hK : K = 1074) : fl N < 9218868437227405312 ∧ Ac (fl N) = N * 2 ^ K := by
 rcases Nat.eq_or_lt_of_le h with h1 | h1
 ·rw [h1, show fl 9007199254740992 = 4845873199050653696 by decide +kernel]
  refine ⟨by omega, ?_⟩
  obtain ⟨d, hd⟩ : ∃ d : Nat, d = 1075 := ⟨_, rfl⟩
  have := Ay 4503599627370496 d (by omega) (by omega)
  rw [show d * 4503599627370496 + 4503599627370496 = 4845873199050653696 by omega] at this
  rw [this, show d = K + 1 by omega, Nat.pow_succ, Nat.mul_comm (2 ^ K) 2, ← Nat.mul_assoc]
 ·obtain ⟨a, b⟩ := Nq h1 hK
  exact ⟨b, a⟩
theorem Rg {D E : Nat} (hE : E ≤ 9007199254740992) (hD : D = 0 ∨ 4503599627370496 ≤ E) : Ac (D * 4503599627370496 + E) = E * 2 ^ D := by
 rcases Nat.eq_or_lt_of_le hE with h | h
 ·rw [h, show D * 4503599627370496 + 9007199254740992 = (D + 1) * 4503599627370496 + 4503599627370496 by omega, Ay _ _ (by omega) (by omega), Nat.pow_succ, Nat.mul_comm (2 ^ D) 2, ← Nat.mul_assoc]
 ·rcases hD with h0 | h0
  ·rw [h0, Nat.zero_mul, Nat.zero_add, Nat.pow_zero, Nat.mul_one]; exact Ey h
  ·exact Ay _ _ h0 h
theorem Adn {E D : Nat} {e' : Int} (hE : E ≤ 9007199254740992) (hD : D = 0 ∨ 4503599627370496 ≤ E) (hD2 : D ≤ 2045) (he : e' = (D : Int) - 1074) (w : World) : Cq 179 #[.float .f64 (fl E), .int .i64 e'] (.float .f64 (min (D * 4503599627370496 + E) 9218868437227405312)) w := by
 obtain ⟨K, hK⟩ : ∃ K : Nat, K = 1074 := ⟨_, rfl⟩
 obtain ⟨y1, y2⟩ := Ac3 hE hK
 have hmk := Rg hE hD
 rcases Nat.eq_zero_or_pos E with h0 | h0
 ·subst h0
  have : D = 0 := by omega
  subst this
  rw [fl_zero]
  exact Nu e' w
 ·have hy0 : 0 < fl E := Gj.1 (by rw [y2]; exact Nat.mul_pos h0 (Nat.two_pow_pos K))
  have hyn : 4503599627370496 ≤ fl E := by
   rcases Nat.lt_or_ge (fl E) 4503599627370496 with h | h
   ·have h1 := Ey (r := fl E) (by omega)
    rw [y2] at h1
    have h2 : 1 * 2 ^ K ≤ E * 2 ^ K := Nat.mul_le_mul_right _ h0
    have h3 : 2 ^ 60 ≤ 2 ^ K := Nat.pow_le_pow_right (by omega) (by omega)
    have h4 : (2 : Nat) ^ 60 = 1152921504606846976 := by decide
    omega
   ·exact h
  rcases Nat.lt_or_ge (D * 4503599627370496 + E) 9218868437227405312 with h | h
  ·rw [Nat.min_eq_left (by omega)]
   rcases Nat.lt_or_ge D K with h1 | h1
   ·obtain ⟨j, hj⟩ : ∃ j, K = D + j := ⟨K - D, by omega⟩
    have := Pm (y := fl E) (D := j) (u := D * 4503599627370496 + E) hyn y1 (by omega) (by rw [hmk, y2, hj, Nat.pow_add, Nat.mul_assoc]) w
    rw [show e' = -(j : Int) by omega]
    exact this
   ·obtain ⟨j, hj⟩ : ∃ j, D = K + j := ⟨D - K, by omega⟩
    have := Se (y := fl E) (D := j) (u := D * 4503599627370496 + E) hy0 y1 h (by rw [hmk, y2, hj, Nat.pow_add, Nat.mul_assoc]) w
    rw [show e' = (j : Int) by omega]
    exact this
  ·rw [Nat.min_eq_right h]
   have hD3 : D = 2045 := by omega
   have hE3 : E = 9007199254740992 := by omega
   have := Lu (fl E) 971 w hyn y1 (by omega)
   rw [show scl (fl E) 971 = 9218868437227405312 from by rw [hE3, show fl 9007199254740992 = 4845873199050653696 by decide +kernel]; decide] at this
   rw [show e' = ((971 : Nat) : Int) by omega]
   exact this
theorem Ad6 (A : Option Addr) (n c a b : Nat) (ex : Int) (l : List Nat) (w : World) (hn : l.length = n) (hc : n ≤ c) (hm : n ≤ 35184372087808) (h : RW w w.heap.size A l) (hb : btl l ≤ 32768) (he1 : -32768 ≤ ex) (he2 : ex ≤ 32768) (hab : (a : Int) - b = ex + 1074) :
  Ct 139 #[.slice A n c, .int .i64 ex] (.float .f64 (rnd (val l * 2 ^ a) (2 ^ b))) w := by
 have hB := Nat.two_pow_pos b
 rcases Nat.eq_zero_or_pos (btl l) with h0 | h0
 ·have h1 : val l = 0 := by
   by_cases e : nrm l = []
   ·have := Ap l
    rw [e] at this
    exact this.symm
   ·have b2 := (Bl h.1 e).2.1
    rw [h0, Nat.pow_zero] at b2
    omega
  have h2 : rnd (val l * 2 ^ a) (2 ^ b) = 0 := by
   rw [h1, Nat.zero_mul]
   unfold rnd Bi
   rw [Nat.zero_div, Ry]
   rfl
  rw [h2]
  exact O9 A n c ex l w hn hc hm h (by assumption)
 ·have hne : nrm l ≠ [] := by intro e; unfold btl at h0; rw [if_pos e] at h0; omega
  obtain ⟨b1, b2, b3⟩ := Bl h.1 hne
  obtain ⟨m, hm2⟩ : ∃ m, btl l = m := ⟨_, rfl⟩
  rw [hm2] at b1 b2 h0 hb
  obtain ⟨v, hv⟩ : ∃ v, val l = v := ⟨_, rfl⟩
  rw [hv] at b1 b2 ⊢
  by_cases hinf : 1024 < (m : Int) + ex
  ·have : rnd (v * 2 ^ a) (2 ^ b) = 9218868437227405312 := by
    unfold rnd
    refine Nat.min_eq_right ?_
    have hp : 2046 ≤ Bi (v * 2 ^ a) (2 ^ b) := by
     unfold Bi
     have h1 : 2 ^ (m - 1 + a - b) ≤ v * 2 ^ a / 2 ^ b := by
      rw [Nat.le_div_iff_mul_le hB, ← Nat.pow_add, show m - 1 + a - b + b = m - 1 + a by omega, Nat.pow_add]
      exact Nat.mul_le_mul_right _ b1
     have h2 := (Nat.le_log2 (by have := Nat.two_pow_pos (m - 1 + a - b); omega)).2 h1
     omega
    have hc1 : 4503599627370496 ≤ Db (v * 2 ^ a) (2 ^ Bi (v * 2 ^ a) (2 ^ b) * 2 ^ b) := by
     refine Nk (Nat.mul_pos (Nat.two_pow_pos _) hB) ?_
     obtain ⟨D, hD⟩ : ∃ D, Bi (v * 2 ^ a) (2 ^ b) = D := ⟨_, rfl⟩
     rw [hD] at hp ⊢
     unfold Bi at hD
     have h3 : 2 ^ (v * 2 ^ a / 2 ^ b).log2 ≤ v * 2 ^ a / 2 ^ b := (Dd _ (by
      rcases Nat.eq_zero_or_pos (v * 2 ^ a / 2 ^ b) with h4 | h4
      ·rw [h4, show Nat.log2 0 = 0 by decide] at hD; omega
      ·exact h4)).1
     have h5 := (Nat.le_div_iff_mul_le hB).1 h3
     rw [show (v * 2 ^ a / 2 ^ b).log2 = 52 + D by omega, Nat.pow_add] at h5
     rw [show (4503599627370496 : Nat) = 2 ^ 52 from rfl, ← Nat.mul_assoc]
     exact h5
    have : 2046 * 4503599627370496 ≤ Bi (v * 2 ^ a) (2 ^ b) * 4503599627370496 := Nat.mul_le_mul_right _ hp
    omega
   rw [this]
   exact Agf A n c ex l w hn hc hm h (by omega) (by omega) (by omega) (by rw [hm2]; exact hinf)
  ·-- the place
   obtain ⟨D, hD⟩ : ∃ D : Nat, (max ((m : Int) - 53 + ex + 1074) 0).toNat = D := ⟨_, rfl⟩
   have hpl : Bi (v * 2 ^ a) (2 ^ b) = D := by
    refine Eq hB ?_ ?_
    ·rcases Nat.eq_zero_or_pos D with h1 | h1
     ·exact Or.inl h1
     ·refine Or.inr ?_
      rw [show (4503599627370496 : Nat) = 2 ^ 52 from rfl, ← Nat.pow_add, ← Nat.pow_add]
      refine Nat.le_trans ?_ (Nat.mul_le_mul_right _ b1)
      rw [← Nat.pow_add]
      exact Nat.pow_le_pow_right (by omega) (by omega)
    ·refine Nat.lt_of_lt_of_le (Nat.mul_lt_mul_of_pos_right b2 (Nat.two_pow_pos a)) ?_
     rw [show (9007199254740992 : Nat) = 2 ^ 53 from rfl, ← Nat.pow_add, ← Nat.pow_add, ← Nat.pow_add]
     exact Nat.pow_le_pow_right (by omega) (by omega)
   have hrnd : rnd (v * 2 ^ a) (2 ^ b) = min (D * 4503599627370496 + Db (v * 2 ^ a) (2 ^ D * 2 ^ b)) 9218868437227405312 := by unfold rnd; rw [hpl]
   rw [hrnd]
   -- the digits kept, either way
   have hup : ∀ k : Nat, (D : Int) - 1074 - ex = -(k : Int) → Db (v * 2 ^ a) (2 ^ D * 2 ^ b) = v * 2 ^ k := by
    intro k hk
    rw [← Nat.pow_add]
    have e0 : evn (v * 2 ^ k) 0 = v * 2 ^ k := by have := Er (v * 2 ^ k) 0; rwa [Nat.pow_zero, Nat.mul_one] at this
    rw [← e0, ← Pk, Nat.pow_zero]
    have := Cf (u := v * 2 ^ k) (w := 1) (k := 2 ^ (D + b)) (Nat.two_pow_pos _)
    rw [Nat.one_mul] at this
    rw [← this, Nat.mul_assoc, ← Nat.pow_add, show k + (D + b) = a by omega]
   have hdn : ∀ k : Nat, (D : Int) - 1074 - ex = (k : Int) → Db (v * 2 ^ a) (2 ^ D * 2 ^ b) = evn v k := by
    intro k hk
    rw [← Nat.pow_add, ← Pk, show D + b = k + a by omega, Nat.pow_add, Cf (Nat.two_pow_pos a)]
   rcases Int.lt_or_le ((D : Int) - 1074 - ex) 1 with hcut | hcut
   ·obtain ⟨k, hk⟩ : ∃ k : Nat, (D : Int) - 1074 - ex = -(k : Int) := ⟨(-((D : Int) - 1074 - ex)).toNat, by omega⟩
    rw [hup k hk]
    have hv53 : v < 9007199254740992 := Nat.lt_of_lt_of_le b2 (Nat.le_trans (Nat.pow_le_pow_right (by omega) (show m ≤ 53 by omega)) (by decide))
    have hc3 : v * 2 ^ k < 9007199254740992 := by
     have h1 : v * 2 ^ k < 2 ^ m * 2 ^ k := Nat.mul_lt_mul_of_pos_right b2 (Nat.two_pow_pos k)
     rw [← Nat.pow_add] at h1
     exact Nat.lt_of_lt_of_le h1 (Nat.le_trans (Nat.pow_le_pow_right (by omega) (show m + k ≤ 53 by omega)) (by decide))
    have hc4 : D = 0 ∨ 4503599627370496 ≤ v * 2 ^ k := by
     rcases Nat.eq_zero_or_pos D with h1 | h1
     ·exact Or.inl h1
     ·refine Or.inr ?_
      refine Nat.le_trans ?_ (Nat.mul_le_mul_right _ b1)
      rw [← Nat.pow_add, show m - 1 + k = 52 by omega]
      decide
    have hmk := Rg (D := D) (E := v * 2 ^ k) (by omega) hc4
    have hD2 : D ≤ 2045 := by omega
    rw [Nat.min_eq_left (by omega)]
    refine Akj A n c _ ex l w hn hc hm h (by rw [hv]; exact hv53) (by omega) (by omega) (by omega) ?_
    rw [hv, hmk, Nat.mul_assoc, ← Nat.pow_add, show k + D = (ex + 1074).toNat by omega]
   ·obtain ⟨d, hd⟩ : ∃ d : Nat, (D : Int) - 1074 - ex = ((d + 1 : Nat) : Int) := ⟨((D : Int) - 1074 - ex - 1).toNat, by omega⟩
    rw [hdn (d + 1) hd]
    have hE : evn v (d + 1) ≤ 9007199254740992 := by
     refine Ao4 (Nat.le_of_lt (Nat.lt_of_lt_of_le b2 ?_))
     rw [show (9007199254740992 : Nat) = 2 ^ 53 from rfl, ← Nat.pow_add]
     exact Nat.pow_le_pow_right (by omega) (by omega)
    have hE2 : D = 0 ∨ 4503599627370496 ≤ evn v (d + 1) := by
     rcases Nat.eq_zero_or_pos D with h1 | h1
     ·exact Or.inl h1
     ·refine Or.inr (Aoq ?_)
      rw [show (4503599627370496 : Nat) = 2 ^ 52 from rfl, ← Nat.pow_add]
      exact Nat.le_trans (Nat.pow_le_pow_right (by omega) (by omega)) b1
    have C5 := Lh (fun W => Adn (e' := (D : Int) - 1074) hE hE2 (by omega) rfl W)
    by_cases hr : m = 54 + d
    ·refine Wv A n c d _ ex l w hn hc hm h (by rw [hm2]; exact hr) (by omega) (by omega) (by omega) ?_
     rw [hv, show ex + (((54 + d : Nat) : Int) - 53) = (D : Int) - 1074 by omega]
     exact C5
    ·have hD0 : D = 0 := by omega
     have he : ex + ((d + 1 : Nat) : Int) = (D : Int) - 1074 := by omega
     rcases Nat.lt_trichotomy (d + 1) m with h1 | h1 | h1
     ·refine Agc A n c d m _ ex l w hn hc hm h hm2 (by omega) (by omega) (by omega) h1 (by omega) ?_
      rw [hv, he]
      exact C5
     ·have hq : v / 2 ^ (d + 1) = 0 := Nat.div_eq_of_lt (by rw [h1]; exact b2)
      have hev := Nv v d
      have hp : v / 2 ^ d = 1 := by
       have e1 : 2 ^ d ≤ v := by rw [show d = m - 1 by omega]; exact b1
       have e2 : v < 2 * 2 ^ d := by rw [Nat.mul_comm, ← Nat.pow_succ, show d.succ = m by omega]; exact b2
       have l1 : 1 ≤ v / 2 ^ d := (Nat.le_div_iff_mul_le (Nat.two_pow_pos d)).2 (by omega)
       have l2 : v / 2 ^ d < 2 := (Nat.div_lt_iff_lt_mul (Nat.two_pow_pos d)).2 e2
       omega
      rw [hq, hp] at hev
      cases hmo : decide (v % 2 ^ d ≠ 0)
      ·rw [hmo] at hev
       have hev0 : evn v (d + 1) = 0 := by rw [hev]; decide
       rw [hev0, fl_zero, ← he] at C5
       rw [hev0]
       exact Aa9 A n c d m _ ex l w hn hc hm h hm2 (by omega) (by omega) (by omega) h1 (by rw [hv]; exact hmo) C5
      ·rw [hmo] at hev
       have hev1 : evn v (d + 1) = 1 := by rw [hev]; decide
       rw [hev1, ← he] at C5
       rw [hev1]
       exact All A n c d m _ ex l w hn hc hm h hm2 (by omega) (by omega) (by omega) h1 (by rw [hv]; exact hmo) C5
     ·have hev0 : evn v (d + 1) = 0 := by
       refine Sq ?_
       rw [Nat.pow_succ]
       have : v < 2 ^ d := Nat.lt_of_lt_of_le b2 (Nat.pow_le_pow_right (by omega) (by omega))
       omega
      rw [hev0, fl_zero, ← he] at C5
      rw [hev0]
      by_cases h2 : d = m
      ·exact Aai A n c d m _ ex l w hn hc hm h hm2 (by omega) (by omega) (by omega) h2 C5
      ·rw [hD0]
       exact Af4 A n c ex l w hn hc hm h (by omega) (by omega) (by omega) (by rw [hm2]; omega)
end
section
structure NV (w : World) (A : Option Addr) (n c v : Nat) : Prop where
 len : (wds v).length = n
 cap : n ≤ c
 row : RW w w.heap.size A (wds v)
theorem NV.step {w w' : World} {A : Option Addr} {n c v : Nat} (h : NV w A n c v) (hb : Below w.heap.size w w') : NV w' A n c v := ⟨h.len, h.cap, h.row.step hb⟩
def bln (v : Nat) : Nat := btl (wds v)
theorem Amy {v : Nat} (h : 0 < v) : nrm (wds v) ≠ [] := by
 intro e
 have := Ps e
 rw [Ad] at this
 omega
theorem Aw {v : Nat} (h : 0 < v) : 2 ^ (bln v - 1) ≤ v ∧ v < 2 ^ bln v ∧ 0 < bln v := by
 have := Bl (Ax v) (Amy h)
 rw [Ad] at this
 exact this
theorem Ic : bln 0 = 0 := by decide
theorem Fw {v L : Nat} (h : v < 2 ^ L) : bln v ≤ L := by
 rcases Nat.eq_zero_or_pos v with h0 | h0
 ·rw [h0, Ic]; omega
 ·have h1 := (Aw h0).1
  have h2 := (Nat.pow_lt_pow_iff_right (a := 2) (by omega)).1 (Nat.lt_of_le_of_lt h1 h)
  omega
theorem Alk {v L : Nat} (h : v < 2 ^ (32 * L)) : (wds v).length ≤ L := by
 refine Bh ?_
 rw [show (4294967296 : Nat) = 2 ^ 32 from rfl, ← Nat.pow_mul]
 exact h
theorem At {v : Nat} (h : bln v ≤ 30000) : (wds v).length ≤ 940 := by
 obtain ⟨L, hL⟩ : ∃ L : Nat, L = 940 := ⟨_, rfl⟩
 rw [← hL]
 rcases Nat.eq_zero_or_pos v with h0 | h0
 ·rw [h0]; show 0 ≤ L; omega
 ·exact Alk (Nat.lt_of_lt_of_le (Aw h0).2.1 (Nat.pow_le_pow_right (by omega) (by omega)))
theorem Cl {v : Nat} (h : bln v ≤ 30000) : Am v = false := by
 unfold Am
 have := At h
 exact decide_eq_false (by omega)
theorem Cm (a b : Nat) : bln (a * b) ≤ bln a + bln b := by
 rcases Nat.eq_zero_or_pos a with h0 | h0
 ·rw [h0, Nat.zero_mul, Ic]; omega
 rcases Nat.eq_zero_or_pos b with h1 | h1
 ·rw [h1, Nat.mul_zero, Ic]; omega
 ·refine Fw ?_
  rw [Nat.pow_add]
  exact Nat.mul_lt_mul'' (Aw h0).2.1 (Aw h1).2.1
theorem Cb {a b : Nat} (h : a ≤ b) : bln a ≤ bln b := by
 rcases Nat.eq_zero_or_pos b with h0 | h0
 ·have : a = 0 := by omega
  rw [this, h0]; omega
 ·exact Fw (Nat.lt_of_le_of_lt h (Aw h0).2.1)
theorem Ef (k : Nat) : bln (2 ^ k) ≤ k + 1 := Fw (by rw [Nat.pow_succ]; have := Nat.two_pow_pos k; omega)
theorem Ne (b k : Nat) : bln (b ^ k) ≤ bln b * k + 1 := by
 rcases Nat.eq_zero_or_pos b with h0 | h0
 ·cases k with
  | zero => rw [Nat.pow_zero, show bln 1 = 1 by decide]; omega
  | succ k => rw [h0, Nat.zero_pow (by omega), Ic]; omega
 ·refine Fw ?_
  have h1 := (Aw h0).2.1
  have h2 : b ^ k ≤ (2 ^ bln b) ^ k := Nat.pow_le_pow_left (Nat.le_of_lt h1) k
  rw [← Nat.pow_mul] at h2
  rw [Nat.pow_succ]
  have := Nat.two_pow_pos (bln b * k)
  omega
theorem H0 (k : Nat) : bln (5 ^ k) ≤ 3 * k + 1 := by have := Ne 5 k; rw [show bln 5 = 3 by decide] at this; exact this
theorem Eh (k : Nat) : bln (10 ^ k) ≤ 4 * k + 1 := by have := Ne 10 k; rw [show bln 10 = 4 by decide] at this; exact this
/-! ### The program's functions -/
def NOk (v : Nat) (w : World) (e : Ending) (w' : World) : Prop := ∃ A n c, e = .returned (.tuple #[.slice A n c, .int .i64 0]) ∧ NV w' A n c v ∧ Below w.heap.size w w'
theorem NOk.of {v : Nat} {w w' : World} {e : Ending} (hl : Am v = false) (h : NatPost v w e w') : NOk v w e w' := by
 obtain ⟨A, n, c, k, he, hp, hb⟩ := h
 rw [if_neg (by rw [hl]; simp)] at hp
 obtain ⟨h1, h2, h3, h4⟩ := hp
 subst h3
 exact ⟨A, n, c, he, ⟨h1.symm, h2, h4⟩, hb⟩
theorem Aq7 {w : World} {A C : Option Addr} {n c m d a b : Nat} (hA : NV w A n c a) (hB : NV w C m d b) (ha : bln a ≤ 15000) (hb : bln b ≤ 15000) :
  Cp 227 #[.slice A n c, .slice C m d] w (NOk (a * b) w) := by
 have la := Cl (v := a) (by omega)
 have lb := Cl (v := b) (by omega)
 have lab := Cl (v := a * b) (Nat.le_trans (Cm a b) (by omega))
 have h1 := At (v := a) (by omega)
 have h2 := At (v := b) (by omega)
 rw [hA.len] at h1
 rw [hB.len] at h2
 have := Anq A C n c m d (wds a) (wds b) w hA.len hA.cap (by omega) hA.row hB.len hB.cap (by omega) hB.row
 rw [Ad, Ad] at this
 refine this.mono fun e w' x => ?_
 unfold Ng at x
 rw [if_neg (by rw [la, lb]; simp)] at x
 exact NOk.of lab x
theorem Aq3 (b n : Nat) (w : World) (hb : b < 4294967296) (hl : bln (b ^ n) ≤ 30000) (hn : n < 100000) : Cp 226 #[.int .u32 b, .int .i64 n] w (NOk (b ^ n) w) :=
 (Amc b n w hb (by omega)).mono fun e w' x => NOk.of (Cl hl) x
theorem Apm {w : World} {A : Option Addr} {n c a : Nat} (hA : NV w A n c a) (p : Nat) (ha : bln a + p ≤ 29000) : Cp 201 #[.slice A n c, .int .i64 p] w (NOk (a * 2 ^ p) w) := by
 have la := Cl (v := a) (by omega)
 have h1 := At (v := a) (by omega)
 rw [hA.len] at h1
 have hp := Ef p
 have lab := Cl (v := a * 2 ^ p) (Nat.le_trans (Cm a _) (by omega))
 have := Ah3 A n c p (wds a) w hA.len hA.cap (by omega) hA.row
 rw [Ad] at this
 refine this.mono fun e w' x => ?_
 unfold Xj at x
 rw [if_neg (by rw [la]; simp), if_neg (by omega), Int.toNat_natCast] at x
 exact NOk.of lab x
theorem Aqz {w : World} {A C : Option Addr} {n c m d a b : Nat} (hA : NV w A n c a) (hB : NV w C m d b) (ha : bln (a + b) ≤ 30000) :
  Cp 203 #[.slice A n c, .slice C m d] w (NOk (a + b) w) := by
 have b1 := Cb (show a ≤ a + b by omega)
 have b2 := Cb (show b ≤ a + b by omega)
 have la := Cl (v := a) (by omega)
 have lb := Cl (v := b) (by omega)
 have h1 := At (v := a) (by omega)
 have h2 := At (v := b) (by omega)
 rw [hA.len] at h1
 rw [hB.len] at h2
 have := Anl A C n c m d (wds a) (wds b) w hA.len hA.cap (by omega) hA.row hB.len hB.cap (by omega) hB.row
 rw [Ad, Ad] at this
 refine this.mono fun e w' x => ?_
 unfold Am1 at x
 rw [if_neg (by rw [la, lb]; simp)] at x
 exact NOk.of (Cl ha) x
theorem Aq6 {w : World} {A C : Option Addr} {n c m d a b : Nat} (hA : NV w A n c a) (hB : NV w C m d b) (ha : bln a ≤ 30000) (hle : b ≤ a) :
  Cp 202 #[.slice A n c, .slice C m d] w (NOk (a - b) w) := by
 have b2 := Cb hle
 have b3 := Cb (show a - b ≤ a by omega)
 have la := Cl (v := a) (by omega)
 have lb := Cl (v := b) (by omega)
 have h1 := At (v := a) (by omega)
 have h2 := At (v := b) (by omega)
 rw [hA.len] at h1
 rw [hB.len] at h2
 have := Am3 A C n c m d (wds a) (wds b) w hA.len hA.cap (by omega) hA.row hB.len hB.cap (by omega) hB.row
 rw [Ad, Ad] at this
 refine this.mono fun e w' x => ?_
 unfold Alr at x
 rw [if_neg (by rw [la, lb]; simp), if_neg (by omega)] at x
 exact NOk.of (Cl (by omega)) x
def DOk (a b : Nat) (w : World) (e : Ending) (w' : World) : Prop := ∃ A n c C m d, e = .returned (.tuple #[.slice A n c, .slice C m d, .int .i64 0]) ∧ NV w' A n c (a / b) ∧ NV w' C m d (a % b) ∧ Below w.heap.size w w'
theorem Aq5 {w : World} {A C : Option Addr} {n c m d a b : Nat} (hA : NV w A n c a) (hB : NV w C m d b) (ha : bln a ≤ 30000) (hb : bln b ≤ 30000) (h0 : 0 < b) :
  Cp 228 #[.slice A n c, .slice C m d] w (DOk a b w) := by
 have la := Cl (v := a) (by omega)
 have lb := Cl (v := b) (by omega)
 have h1 := At (v := a) (by omega)
 have h2 := At (v := b) (by omega)
 rw [hA.len] at h1
 rw [hB.len] at h2
 have := Amu A C n c m d (wds a) (wds b) w hA.len hA.cap (by omega) hA.row hB.len hB.cap (by omega) hB.row
 rw [Ad, Ad] at this
 refine this.mono fun e w' x => ?_
 have hlb : (Am a || Am b) = false := by rw [la, lb]; rfl
 obtain ⟨A2, n2, c2, C2, m2, d2, he, ⟨x1, x2, x3, x4, x5, x6⟩, hbw⟩ := x
 have hB2 := Tw hlb h0
 unfold Kv at x1 x5
 unfold Ls at x3 x6
 rw [if_pos hB2] at x1 x5 x3 x6
 have hk : H8 a b = 0 := by unfold H8; rw [if_neg (by rw [hlb]; simp), if_neg (by omega)]
 rw [hk] at he
 exact ⟨A2, n2, c2, C2, m2, d2, he, ⟨x1.symm, x2, x5⟩, ⟨x3.symm, x4, x6⟩, hbw⟩
theorem Adj {w : World} {A : Option Addr} {n c a : Nat} (hA : NV w A n c a) (ha : bln a ≤ 30000) : Cq 176 #[.slice A n c] (.int .i64 (bln a : Nat)) w := by
 have h1 := At (v := a) (by omega)
 rw [hA.len] at h1
 exact Gb A n c (wds a) w.heap.size w hA.len hA.cap (by omega) hA.row
def NRet (v : Nat) (w : World) (e : Ending) (w' : World) : Prop := ∃ A n c, e = .returned (.slice A n c) ∧ NV w' A n c v ∧ Below w.heap.size w w'
theorem NRet.of {v : Nat} {w w' : World} {e : Ending} (h : SlPost (wds v) w e w') : NRet v w e w' := by
 obtain ⟨V, he, ⟨A, c, hv, hc, hr⟩, hb⟩ := h
 subst hv
 exact ⟨A, _, c, he, ⟨rfl, hc, hr⟩, hb⟩
theorem nof (n : Nat) (hn : n < 18446744073709551616) (w : World) : Cp 187 #[.int .u64 n] w (NRet n w) :=
 (O1 n hn w).mono fun e w' x => NRet.of (by rw [F3 n hn] at x; exact x)
/-! ### The reference's functions -/
theorem Aqy (n : Nat) (hn : n < 18446744073709551616) (w : World) : Cp 211 #[.int .u64 n] w (NRet n w) :=
 (Acl n hn w).mono fun e w' x => NRet.of (by rw [F3 n hn] at x; exact x)
theorem Gr {w : World} {A C : Option Addr} {n c m d a b : Nat} (hA : NV w A n c a) (hB : NV w C m d b) (ha : bln a ≤ 30000) (hb : bln b ≤ 30000) :
  Cp 138 #[.slice A n c, .slice C m d] w (NRet (a * b) w) := by
 have h1 := At (v := a) (by omega)
 have h2 := At (v := b) (by omega)
 rw [hA.len] at h1
 rw [hB.len] at h2
 have := Rh A C n c m d (wds a) (wds b) w hA.len (by omega) hA.row hB.len (by omega) hB.row
 rw [Ad, Ad] at this
 exact this.mono fun e w' x => NRet.of x
theorem Ah1 {w : World} {A C : Option Addr} {n c m d a b : Nat} (hA : NV w A n c a) (hB : NV w C m d b) (ha : bln a ≤ 30000) (hb : bln b ≤ 30000) :
  Cp 137 #[.slice A n c, .slice C m d] w (NRet (a + b) w) := by
 have h1 := At (v := a) (by omega)
 have h2 := At (v := b) (by omega)
 rw [hA.len] at h1
 rw [hB.len] at h2
 have := Fo A C n c m d (wds a) (wds b) w hA.len (by omega) hA.row hB.len (by omega) hB.row
 rw [Ad, Ad] at this
 exact this.mono fun e w' x => NRet.of x
theorem Ajy {w : World} {A : Option Addr} {n c a : Nat} (hA : NV w A n c a) (p : Nat) (ha : bln a ≤ 30000) (hp : p ≤ 32768) : Cp 157 #[.slice A n c, .int .i64 p] w (NRet (a * 2 ^ p) w) := by
 have h1 := At (v := a) (by omega)
 rw [hA.len] at h1
 have := Alh A n c p (wds a) w hA.len hA.cap (by omega) hA.row hp
 rw [Ad] at this
 exact this.mono fun e w' x => NRet.of x
def Qk (a b : Nat) (w : World) (e : Ending) (w' : World) : Prop := ∃ A n c C m d, e = .returned (.tuple #[.slice A n c, .slice C m d]) ∧ NV w' A n c (a / b) ∧ NV w' C m d (a % b) ∧ Below w.heap.size w w'
theorem Ut {w : World} {A : Option Addr} {n c a : Nat} (hA : NV w A n c a) (ha : bln a ≤ 30000) : Ct 193 #[.slice A n c] (.int .i64 (bln a : Nat)) w := by
 have h1 := At (v := a) (by omega)
 rw [hA.len] at h1
 exact Da A n c (wds a) w.heap.size w hA.len hA.cap (by omega) hA.row
theorem Ug {w : World} {A : Option Addr} {n c a : Nat} (hA : NV w A n c a) (ha : bln a ≤ 30000) (x y : Nat) (ex : Int) (he1 : -32768 ≤ ex) (he2 : ex ≤ 32768) (hxy : (x : Int) - y = ex + 1074) :
  Ct 139 #[.slice A n c, .int .i64 ex] (.float .f64 (rnd (a * 2 ^ x) (2 ^ y))) w := by
 have h1 := At (v := a) (by omega)
 rw [hA.len] at h1
 have := Ad6 A n c x y ex (wds a) w hA.len hA.cap (by omega) hA.row (show bln a ≤ 32768 by omega) he1 he2 hxy
 rw [Ad] at this
 exact this
theorem Xb {w : World} {A C : Option Addr} {n c m d a b : Nat} (hA : NV w A n c a) (hB : NV w C m d b) (ha : bln a ≤ 30000) (hb : bln b ≤ 30000) (h0 : 0 < b) :
  Cp 155 #[.slice A n c, .slice C m d] w (Qk a b w) := by
 have h1 := At (v := a) (by omega)
 have h2 := At (v := b) (by omega)
 rw [hA.len] at h1
 rw [hB.len] at h2
 have := Aag A C n c m d (wds a) (wds b) w hA.len (by omega) hA.row hB.len (by omega) hB.row (Ik b) (by rw [Ad]; exact h0)
 rw [Ad, Ad] at this
 refine this.mono fun e w' x => ?_
 obtain ⟨A2, n2, c2, C2, m2, d2, he, ⟨x1, x2, x3, x4, x5, x6⟩, hbw⟩ := x
 exact ⟨A2, n2, c2, C2, m2, d2, he, ⟨x1.symm, x2, x5⟩, ⟨x3.symm, x4, x6⟩, hbw⟩
theorem Acw {x : Nat} (h0 : 0 < x) (hx : x < 4294967296) : wds x = [x] := by
 have h := Bg (l := [x]) (Ws.cons hx Ws.nil)
 rw [show val [x] = x by simp [val]] at h
 rw [← h]
 exact Dw (fun e => by have := e.1; omega)
theorem NV.lit (W : World) (x : Nat) (h0 : 0 < x) (hx : x < 4294967296) : NV (W.alloc (.cells #[.int .u32 (x : Int)] 129)) (some ⟨W.heap.size, 0, none⟩) 1 1 x :=
 ⟨by rw [Acw h0 hx]; rfl, Nat.le_refl _, by rw [Acw h0 hx]; exact Hh W x hx⟩
end
section
theorem Bn {B g : Nat} {a w : World} (h : Below B a w) (hg : B ≤ g) (c : Array Value) : Below B a (w.setRow g c) :=
 ⟨h.os, h.tape, h.output, by rw [setRow_size]; exact h.size, fun k hk => (setRow_other w g k c (by omega)).trans (h.block k hk)⟩
theorem Br {fn : Func} {p t u : Tmp} {ty : TypeId} (h : fn.results = #[.cell p ty, .tmp t, .tmp u]) (tmps : Array Value) (P : Program) (w : World) (a : Addr) (v : Value) (ha : tmps.getD p undef = .pointer (some a)) (hl : (loadVar ty a).run P w = .ok v w) :
  (results fn tmps).run P w = .ok (.tuple #[v, tmps.getD t undef, tmps.getD u undef]) w := by
 simp only [results, h]
 simp [-Array.getD_eq_getD_getElem?, ha, asAddr, hl]
def Rc (w : World) (g : Nat) (a b c : Value) : Prop := w.heap[g]? = some (.cells #[a, b, c] 102 (0, 0))
theorem Rc.cells {w : World} {g : Nat} {a b c : Value} (h : Rc w g a b c) : w.cell? ⟨g, 0, none⟩ = some a ∧ w.cell? ⟨g, 1, none⟩ = some b ∧ w.cell? ⟨g, 2, none⟩ = some c ∧ (∀ k, w.frozen? ⟨g, k, none⟩ = false) := by
 unfold Rc at h
 refine ⟨by simp [World.cell?, h], by simp [World.cell?, h], by simp [World.cell?, h], fun k => by simp [World.frozen?, h]⟩
theorem Rc.below {w w' : World} {g B : Nat} {a b c : Value} (h : Rc w g a b c) (hb : Below B w w') (hg : g < B) : Rc w' g a b c := (hb.block g hg).trans h
theorem Rc.set0 {w : World} {g : Nat} {a b c : Value} (h : Rc w g a b c) (v : Value) : Rc (w.setCell ⟨g, 0, none⟩ v) g v b c := by
 have := heap_setCell_same w g 0 _ _ v h
 exact this
theorem Rc.set1 {w : World} {g : Nat} {a b c : Value} (h : Rc w g a b c) (v : Value) : Rc (w.setCell ⟨g, 1, none⟩ v) g a v c := by
 have := heap_setCell_same w g 1 _ _ v h
 exact this
theorem Rc.set2 {w : World} {g : Nat} {a b c : Value} (h : Rc w g a b c) (v : Value) : Rc (w.setCell ⟨g, 2, none⟩ v) g a b v := by
 have := heap_setCell_same w g 2 _ _ v h
 exact this
theorem Rc.other {w : World} {g k i : Nat} {a b c v : Value} (h : Rc w g a b c) (hk : g ≠ k) : Rc (w.setCell ⟨k, i, none⟩ v) g a b c := (heap_setCell_other w ⟨k, i, none⟩ g v hk).trans h
def zs : Value := .string ⟨#[]⟩
structure Rd (W w : World) (a b c : Value) : Prop where
 lo : Rc w W.heap.size zs zs (.int .i64 0)
 hi : Rc w (W.heap.size + 1) a b c
 bw : Below W.heap.size W w
 sz : W.heap.size + 2 ≤ w.heap.size
theorem Rd.start (W : World) : Rd W ((W.alloc (.cells #[zs, zs, .int .i64 0] 102)).alloc (.cells #[zs, zs, .int .i64 0] 102)) zs zs (.int .i64 0) := by
 obtain ⟨V, hV⟩ : ∃ V, W.alloc (.cells #[zs, zs, .int .i64 0] 102) = V := ⟨_, rfl⟩
 have hs : V.heap.size = W.heap.size + 1 := by rw [← hV]; simp
 have h1 : Rc V W.heap.size zs zs (.int .i64 0) := by rw [← hV]; exact heap_alloc_last W _
 have b1 : Below W.heap.size W V := by rw [← hV]; exact (Below.refl _ _).alloc (Nat.le_refl _) _
 have b2 : Below V.heap.size V (V.alloc (.cells #[zs, zs, .int .i64 0] 102)) := (Below.refl _ _).alloc (Nat.le_refl _) _
 rw [hV]
 refine ⟨h1.below b2 (by omega), ?_, Aa b1 b2, by simp; omega⟩
 rw [← hs]
 exact heap_alloc_last V _
theorem Rd.step {W w w' : World} {a b c : Value} (h : Rd W w a b c) (hb : Below w.heap.size w w') : Rd W w' a b c :=
 ⟨h.lo.below hb (by have := h.sz; omega), h.hi.below hb (by have := h.sz; omega), Aa h.bw hb, Nat.le_trans h.sz hb.size⟩
theorem Rd.put0 {W w : World} {a b c : Value} (h : Rd W w a b c) (v : Value) : Rd W (w.setCell ⟨W.heap.size + 1, 0, none⟩ v) v b c :=
 ⟨h.lo.other (by omega), h.hi.set0 v, h.bw.setCell (by show W.heap.size ≤ W.heap.size + 1; omega) _, by simp only [World.setCell, Array.size_modify]; exact h.sz⟩
theorem Rd.put1 {W w : World} {a b c : Value} (h : Rd W w a b c) (v : Value) : Rd W (w.setCell ⟨W.heap.size + 1, 1, none⟩ v) a v c :=
 ⟨h.lo.other (by omega), h.hi.set1 v, h.bw.setCell (by show W.heap.size ≤ W.heap.size + 1; omega) _, by simp only [World.setCell, Array.size_modify]; exact h.sz⟩
theorem Rd.put2 {W w : World} {a b c : Value} (h : Rd W w a b c) (v : Value) : Rd W (w.setCell ⟨W.heap.size + 1, 2, none⟩ v) a b v :=
 ⟨h.lo.other (by omega), h.hi.set2 v, h.bw.setCell (by show W.heap.size ≤ W.heap.size + 1; omega) _, by simp only [World.setCell, Array.size_modify]; exact h.sz⟩
theorem K8 (s : ByteArray) (w : World) (S1 : ByteArray)
   (C1 : Hid (∀ W, Ct 96 #[.string s, .int .i64 10] (.tuple #[.string ⟨#[]⟩, .string S1]) W))
   (C2 : Hid (∀ W, Cq 100 #[.string S1, .string ⟨#[46]⟩] (.tuple #[.string S1, .bool false]) W)) :
    Cp 102 #[.string s] w (fun e w' => e = .returned (.tuple #[.agg #[.string ⟨#[]⟩, .string ⟨#[]⟩, .int .i64 0], .string ⟨#[]⟩, .bool false]) ∧ Below w.heap.size w w') := by
  have R0 := Lh (Rd.start w)
  go_enter Tryz.func102, Tryz.ntmps102
  go_wp2_with fail
  refine Bm (C1.out _) fun w1 hb1 => ?_
  have R1 := Lh (R0.out.step hb1)
  obtain ⟨c0, c1, c2, fz⟩ := R1.out.hi.cells
  have f0 := fz 0
  clear fz hb1
  go_wp2_with fail
  refine (C2.out _).mono ?_
  rintro e w2 ⟨rfl, rfl⟩
  have R2 := Lh (R1.out.put0 (.string ⟨#[]⟩))
  generalize w1.setCell ⟨w.heap.size + 1, 0, none⟩ (.string ⟨#[]⟩) = w2 at *
  clear c0 c1 c2 f0
  obtain ⟨c0, c1, c2, fz⟩ := R2.out.hi.cells
  have f0 := fz 0
  clear fz
  unfold zs at c1
  have HG := Lh (show w2.heap[w.heap.size]? = some (.cells #[.string ⟨#[]⟩, .string ⟨#[]⟩, .int .i64 0] 102 (0, 0)) from R2.out.lo)
  have HB := Lh R2.out.bw
  go_wp2_with (first | (refine wpList_store_row rfl 102 _ _ rfl w.heap.size #[.string ⟨#[]⟩, .string ⟨#[]⟩, .int .i64 0] rfl rfl 102 #[.string ⟨#[]⟩, .string ⟨#[]⟩, .int .i64 0] HG.out (by first | kernel_rfl | rfl) rfl (by first | kernel_rfl | rfl) ?_))
  exact bodyPost_ret (Br rfl _ _ _ _ _ rfl (run_loadVar_row _ w.heap.size 102 102 _ (0, 0) _ (setRow_heap _ _ _ _ _ _ HG.out) Tryz.underlying102 rfl (by first | kernel_rfl | rfl))) rfl ⟨rfl, Bn HB.out (Nat.le_refl _) _⟩
theorem Iz (s : ByteArray) (w : World) (Wt S1 t0 Rt : ByteArray) (X : Int) (n2 : Wt.toList.isEmpty = false)
   (C1 : Hid (∀ W, Ct 96 #[.string s, .int .i64 10] (.tuple #[.string Wt, .string S1]) W))
   (C2 : Hid (∀ W, Cq 100 #[.string S1, .string ⟨#[46]⟩] (.tuple #[.string t0, .bool false]) W))
   (C3 : Hid (∀ W, Ct 134 #[.string S1] (.tuple #[.int .i64 X, .string Rt, .bool false]) W)) :
    Cp 102 #[.string s] w (fun e w' => e = .returned (.tuple #[.agg #[.string Wt, .string ⟨#[]⟩, .int .i64 0], .string S1, .bool true]) ∧ Below w.heap.size w w') := by
  have R0 := Lh (Rd.start w)
  go_enter Tryz.func102, Tryz.ntmps102
  go_wp2_with fail
  refine Bm (C1.out _) fun w1 hb1 => ?_
  have R1 := Lh (R0.out.step hb1)
  clear hb1
  obtain ⟨c0, c1, c2, fz⟩ := R1.out.hi.cells
  have f0 := fz 0
  have f1 := fz 1
  have f2 := fz 2
  clear fz
  try unfold zs at c0
  try unfold zs at c1
  go_wp2_with fail
  refine (C2.out _).mono ?_
  rintro e w2 ⟨rfl, rfl⟩
  have R2 := Lh (R1.out.put0 (.string Wt))
  generalize w1.setCell ⟨w.heap.size + 1, 0, none⟩ (.string Wt) = w2 at *
  clear c0 c1 c2 f0 f1 f2
  obtain ⟨c0, c1, c2, fz⟩ := R2.out.hi.cells
  have f0 := fz 0
  have f1 := fz 1
  have f2 := fz 2
  clear fz
  try unfold zs at c0
  try unfold zs at c1
  go_wp2_with fail
  refine Bm (C3.out _) fun w3 hb3 => ?_
  have R3 := Lh (R2.out.step hb3)
  clear hb3 c0 c1 c2 f0 f1 f2
  obtain ⟨c0, c1, c2, fz⟩ := R3.out.hi.cells
  have f0 := fz 0
  have f1 := fz 1
  have f2 := fz 2
  clear fz
  try unfold zs at c0
  try unfold zs at c1
  have HG := Lh (show w3.heap[w.heap.size]? = some (.cells #[.string ⟨#[]⟩, .string ⟨#[]⟩, .int .i64 0] 102 (0, 0)) from R3.out.lo)
  have HB := Lh R3.out.bw
  go_wp2_with (first | (refine wpList_store_row rfl 102 _ _ rfl w.heap.size #[.string Wt, .string ⟨#[]⟩, .int .i64 0] rfl rfl 102 #[.string ⟨#[]⟩, .string ⟨#[]⟩, .int .i64 0] HG.out (by first | kernel_rfl | rfl) rfl (by first | kernel_rfl | rfl) ?_))
  exact bodyPost_ret (Br rfl _ _ _ _ _ rfl (run_loadVar_row _ w.heap.size 102 102 _ (0, 0) _ (setRow_heap _ _ _ _ _ _ HG.out) Tryz.underlying102 rfl (by first | kernel_rfl | rfl))) rfl ⟨rfl, Bn HB.out (Nat.le_refl _) _⟩
theorem Jl (s : ByteArray) (w : World) (Wt S1 t0 Rt : ByteArray) (X : Int) (n2 : Wt.toList.isEmpty = false)
   (C1 : Hid (∀ W, Ct 96 #[.string s, .int .i64 10] (.tuple #[.string Wt, .string S1]) W))
   (C2 : Hid (∀ W, Cq 100 #[.string S1, .string ⟨#[46]⟩] (.tuple #[.string t0, .bool false]) W))
   (C3 : Hid (∀ W, Ct 134 #[.string S1] (.tuple #[.int .i64 X, .string Rt, .bool true]) W)) :
    Cp 102 #[.string s] w (fun e w' => e = .returned (.tuple #[.agg #[.string Wt, .string ⟨#[]⟩, .int .i64 X], .string Rt, .bool true]) ∧ Below w.heap.size w w') := by
  have R0 := Lh (Rd.start w)
  go_enter Tryz.func102, Tryz.ntmps102
  go_wp2_with fail
  refine Bm (C1.out _) fun w1 hb1 => ?_
  have R1 := Lh (R0.out.step hb1)
  clear hb1
  obtain ⟨c0, c1, c2, fz⟩ := R1.out.hi.cells
  have f0 := fz 0
  have f1 := fz 1
  have f2 := fz 2
  clear fz
  try unfold zs at c0
  try unfold zs at c1
  go_wp2_with fail
  refine (C2.out _).mono ?_
  rintro e w2 ⟨rfl, rfl⟩
  have R2 := Lh (R1.out.put0 (.string Wt))
  generalize w1.setCell ⟨w.heap.size + 1, 0, none⟩ (.string Wt) = w2 at *
  clear c0 c1 c2 f0 f1 f2
  obtain ⟨c0, c1, c2, fz⟩ := R2.out.hi.cells
  have f0 := fz 0
  have f1 := fz 1
  have f2 := fz 2
  clear fz
  try unfold zs at c0
  try unfold zs at c1
  go_wp2_with fail
  refine Bm (C3.out _) fun w3 hb3 => ?_
  have R3 := Lh (R2.out.step hb3)
  clear hb3 c0 c1 c2 f0 f1 f2
  obtain ⟨c0, c1, c2, fz⟩ := R3.out.hi.cells
  have f0 := fz 0
  have f1 := fz 1
  have f2 := fz 2
  clear fz
  try unfold zs at c0
  try unfold zs at c1
  have HR := Lh (R3.out.put2 (.int .i64 X))
  have HG := Lh (show (w3.setCell ⟨w.heap.size + 1, 2, none⟩ (.int .i64 X)).heap[w.heap.size]? = some (.cells #[.string ⟨#[]⟩, .string ⟨#[]⟩, .int .i64 0] 102 (0, 0)) from HR.out.lo)
  have HB := Lh HR.out.bw
  obtain ⟨d0, d1, d2, _⟩ := HR.out.hi.cells
  try unfold zs at d1
  go_wp2_with (first | (refine wpList_store_row rfl 102 _ _ rfl w.heap.size #[.string Wt, .string ⟨#[]⟩, .int .i64 X] rfl rfl 102 #[.string ⟨#[]⟩, .string ⟨#[]⟩, .int .i64 0] HG.out (by first | kernel_rfl | rfl) rfl (by first | kernel_rfl | rfl) ?_))
  exact bodyPost_ret (Br rfl _ _ _ _ _ rfl (run_loadVar_row _ w.heap.size 102 102 _ (0, 0) _ (setRow_heap _ _ _ _ _ _ HG.out) Tryz.underlying102 rfl (by first | kernel_rfl | rfl))) rfl ⟨rfl, Bn HB.out (Nat.le_refl _) _⟩
theorem Hv (s : ByteArray) (w : World) (Wt S1 S2 Bt Ft Rt : ByteArray) (X : Int) (n2 : Wt.toList.isEmpty = false)
   (C1 : Hid (∀ W, Ct 96 #[.string s, .int .i64 10] (.tuple #[.string Wt, .string S1]) W))
   (C2 : Hid (∀ W, Cq 100 #[.string S1, .string ⟨#[46]⟩] (.tuple #[.string Bt, .bool true]) W))
   (C4 : Hid (∀ W, Ct 96 #[.string Bt, .int .i64 10] (.tuple #[.string Ft, .string S2]) W))
   (C3 : Hid (∀ W, Ct 134 #[.string S2] (.tuple #[.int .i64 X, .string Rt, .bool false]) W)) :
    Cp 102 #[.string s] w (fun e w' => e = .returned (.tuple #[.agg #[.string Wt, .string Ft, .int .i64 0], .string S2, .bool true]) ∧ Below w.heap.size w w') := by
  have R0 := Lh (Rd.start w)
  go_enter Tryz.func102, Tryz.ntmps102
  go_wp2_with fail
  refine Bm (C1.out _) fun w1 hb1 => ?_
  have R1 := Lh (R0.out.step hb1)
  clear hb1
  obtain ⟨c0, c1, c2, fz⟩ := R1.out.hi.cells
  have f0 := fz 0
  have f1 := fz 1
  have f2 := fz 2
  clear fz
  try unfold zs at c0
  try unfold zs at c1
  go_wp2_with fail
  refine (C2.out _).mono ?_
  rintro e w2 ⟨rfl, rfl⟩
  have R2 := Lh (R1.out.put0 (.string Wt))
  generalize w1.setCell ⟨w.heap.size + 1, 0, none⟩ (.string Wt) = w2 at *
  clear c0 c1 c2 f0 f1 f2
  obtain ⟨c0, c1, c2, fz⟩ := R2.out.hi.cells
  have f0 := fz 0
  have f1 := fz 1
  have f2 := fz 2
  clear fz
  try unfold zs at c0
  try unfold zs at c1
  go_wp2_with fail
  refine Bm (C4.out _) fun w3 hb3 => ?_
  have R3 := Lh (R2.out.step hb3)
  clear hb3 c0 c1 c2 f0 f1 f2
  obtain ⟨c0, c1, c2, fz⟩ := R3.out.hi.cells
  have f0 := fz 0
  have f1 := fz 1
  have f2 := fz 2
  clear fz
  try unfold zs at c0
  try unfold zs at c1
  have R4 := Lh (R3.out.put1 (.string Ft))
  obtain ⟨e0, e1, e2, ez⟩ := R4.out.hi.cells
  have g0 := ez 0
  have g1 := ez 1
  have g2 := ez 2
  clear ez
  go_wp2_with fail
  refine Bm (C3.out _) fun w5 hb5 => ?_
  have R5 := Lh (R4.out.step hb5)
  clear hb5 c0 c1 c2 f0 f1 f2
  obtain ⟨c0, c1, c2, fz⟩ := R5.out.hi.cells
  have f0 := fz 0
  have f1 := fz 1
  have f2 := fz 2
  clear fz
  try unfold zs at c0
  try unfold zs at c1
  have HG := Lh (show w5.heap[w.heap.size]? = some (.cells #[.string ⟨#[]⟩, .string ⟨#[]⟩, .int .i64 0] 102 (0, 0)) from R5.out.lo)
  have HB := Lh R5.out.bw
  go_wp2_with (first | (refine wpList_store_row rfl 102 _ _ rfl w.heap.size #[.string Wt, .string Ft, .int .i64 0] rfl rfl 102 #[.string ⟨#[]⟩, .string ⟨#[]⟩, .int .i64 0] HG.out (by first | kernel_rfl | rfl) rfl (by first | kernel_rfl | rfl) ?_))
  exact bodyPost_ret (Br rfl _ _ _ _ _ rfl (run_loadVar_row _ w.heap.size 102 102 _ (0, 0) _ (setRow_heap _ _ _ _ _ _ HG.out) Tryz.underlying102 rfl (by first | kernel_rfl | rfl))) rfl ⟨rfl, Bn HB.out (Nat.le_refl _) _⟩
theorem I6 (s : ByteArray) (w : World) (Wt S1 S2 Bt Ft Rt : ByteArray) (X : Int) (n2 : Wt.toList.isEmpty = false)
   (C1 : Hid (∀ W, Ct 96 #[.string s, .int .i64 10] (.tuple #[.string Wt, .string S1]) W))
   (C2 : Hid (∀ W, Cq 100 #[.string S1, .string ⟨#[46]⟩] (.tuple #[.string Bt, .bool true]) W))
   (C4 : Hid (∀ W, Ct 96 #[.string Bt, .int .i64 10] (.tuple #[.string Ft, .string S2]) W))
   (C3 : Hid (∀ W, Ct 134 #[.string S2] (.tuple #[.int .i64 X, .string Rt, .bool true]) W)) :
    Cp 102 #[.string s] w (fun e w' => e = .returned (.tuple #[.agg #[.string Wt, .string Ft, .int .i64 X], .string Rt, .bool true]) ∧ Below w.heap.size w w') := by
  have R0 := Lh (Rd.start w)
  go_enter Tryz.func102, Tryz.ntmps102
  go_wp2_with fail
  refine Bm (C1.out _) fun w1 hb1 => ?_
  have R1 := Lh (R0.out.step hb1)
  clear hb1
  obtain ⟨c0, c1, c2, fz⟩ := R1.out.hi.cells
  have f0 := fz 0
  have f1 := fz 1
  have f2 := fz 2
  clear fz
  try unfold zs at c0
  try unfold zs at c1
  go_wp2_with fail
  refine (C2.out _).mono ?_
  rintro e w2 ⟨rfl, rfl⟩
  have R2 := Lh (R1.out.put0 (.string Wt))
  generalize w1.setCell ⟨w.heap.size + 1, 0, none⟩ (.string Wt) = w2 at *
  clear c0 c1 c2 f0 f1 f2
  obtain ⟨c0, c1, c2, fz⟩ := R2.out.hi.cells
  have f0 := fz 0
  have f1 := fz 1
  have f2 := fz 2
  clear fz
  try unfold zs at c0
  try unfold zs at c1
  go_wp2_with fail
  refine Bm (C4.out _) fun w3 hb3 => ?_
  have R3 := Lh (R2.out.step hb3)
  clear hb3 c0 c1 c2 f0 f1 f2
  obtain ⟨c0, c1, c2, fz⟩ := R3.out.hi.cells
  have f0 := fz 0
  have f1 := fz 1
  have f2 := fz 2
  clear fz
  try unfold zs at c0
  try unfold zs at c1
  have R4 := Lh (R3.out.put1 (.string Ft))
  obtain ⟨e0, e1, e2, ez⟩ := R4.out.hi.cells
  have g0 := ez 0
  have g1 := ez 1
  have g2 := ez 2
  clear ez
  go_wp2_with fail
  refine Bm (C3.out _) fun w5 hb5 => ?_
  have R5 := Lh (R4.out.step hb5)
  clear hb5 c0 c1 c2 f0 f1 f2
  obtain ⟨c0, c1, c2, fz⟩ := R5.out.hi.cells
  have f0 := fz 0
  have f1 := fz 1
  have f2 := fz 2
  clear fz
  try unfold zs at c0
  try unfold zs at c1
  have HR := Lh (R5.out.put2 (.int .i64 X))
  have HG := Lh (show (w5.setCell ⟨w.heap.size + 1, 2, none⟩ (.int .i64 X)).heap[w.heap.size]? = some (.cells #[.string ⟨#[]⟩, .string ⟨#[]⟩, .int .i64 0] 102 (0, 0)) from HR.out.lo)
  have HB := Lh HR.out.bw
  obtain ⟨d0, d1, d2, _⟩ := HR.out.hi.cells
  try unfold zs at d1
  go_wp2_with (first | (refine wpList_store_row rfl 102 _ _ rfl w.heap.size #[.string Wt, .string Ft, .int .i64 X] rfl rfl 102 #[.string ⟨#[]⟩, .string ⟨#[]⟩, .int .i64 0] HG.out (by first | kernel_rfl | rfl) rfl (by first | kernel_rfl | rfl) ?_))
  exact bodyPost_ret (Br rfl _ _ _ _ _ rfl (run_loadVar_row _ w.heap.size 102 102 _ (0, 0) _ (setRow_heap _ _ _ _ _ _ HG.out) Tryz.underlying102 rfl (by first | kernel_rfl | rfl))) rfl ⟨rfl, Bn HB.out (Nat.le_refl _) _⟩
theorem Ia (s : ByteArray) (w : World) (S1 S2 Bt Ft Rt : ByteArray) (X : Int) (m2 : Ft.toList.isEmpty = false)
   (C1 : Hid (∀ W, Ct 96 #[.string s, .int .i64 10] (.tuple #[.string ⟨#[]⟩, .string S1]) W))
   (C2 : Hid (∀ W, Cq 100 #[.string S1, .string ⟨#[46]⟩] (.tuple #[.string Bt, .bool true]) W))
   (C4 : Hid (∀ W, Ct 96 #[.string Bt, .int .i64 10] (.tuple #[.string Ft, .string S2]) W))
   (C3 : Hid (∀ W, Ct 134 #[.string S2] (.tuple #[.int .i64 X, .string Rt, .bool false]) W)) :
    Cp 102 #[.string s] w (fun e w' => e = .returned (.tuple #[.agg #[.string ⟨#[]⟩, .string Ft, .int .i64 0], .string S2, .bool true]) ∧ Below w.heap.size w w') := by
  have R0 := Lh (Rd.start w)
  go_enter Tryz.func102, Tryz.ntmps102
  go_wp2_with fail
  refine Bm (C1.out _) fun w1 hb1 => ?_
  have R1 := Lh (R0.out.step hb1)
  clear hb1
  obtain ⟨c0, c1, c2, fz⟩ := R1.out.hi.cells
  have f0 := fz 0
  have f1 := fz 1
  have f2 := fz 2
  clear fz
  try unfold zs at c0
  try unfold zs at c1
  go_wp2_with fail
  refine (C2.out _).mono ?_
  rintro e w2 ⟨rfl, rfl⟩
  have R2 := Lh (R1.out.put0 (.string ⟨#[]⟩))
  generalize w1.setCell ⟨w.heap.size + 1, 0, none⟩ (.string ⟨#[]⟩) = w2 at *
  clear c0 c1 c2 f0 f1 f2
  obtain ⟨c0, c1, c2, fz⟩ := R2.out.hi.cells
  have f0 := fz 0
  have f1 := fz 1
  have f2 := fz 2
  clear fz
  try unfold zs at c0
  try unfold zs at c1
  go_wp2_with fail
  refine Bm (C4.out _) fun w3 hb3 => ?_
  have R3 := Lh (R2.out.step hb3)
  clear hb3 c0 c1 c2 f0 f1 f2
  obtain ⟨c0, c1, c2, fz⟩ := R3.out.hi.cells
  have f0 := fz 0
  have f1 := fz 1
  have f2 := fz 2
  clear fz
  try unfold zs at c0
  try unfold zs at c1
  have R4 := Lh (R3.out.put1 (.string Ft))
  obtain ⟨e0, e1, e2, ez⟩ := R4.out.hi.cells
  have g0 := ez 0
  have g1 := ez 1
  have g2 := ez 2
  clear ez
  go_wp2_with fail
  refine Bm (C3.out _) fun w5 hb5 => ?_
  have R5 := Lh (R4.out.step hb5)
  clear hb5 c0 c1 c2 f0 f1 f2
  obtain ⟨c0, c1, c2, fz⟩ := R5.out.hi.cells
  have f0 := fz 0
  have f1 := fz 1
  have f2 := fz 2
  clear fz
  try unfold zs at c0
  try unfold zs at c1
  have HG := Lh (show w5.heap[w.heap.size]? = some (.cells #[.string ⟨#[]⟩, .string ⟨#[]⟩, .int .i64 0] 102 (0, 0)) from R5.out.lo)
  have HB := Lh R5.out.bw
  go_wp2_with (first | (refine wpList_store_row rfl 102 _ _ rfl w.heap.size #[.string ⟨#[]⟩, .string Ft, .int .i64 0] rfl rfl 102 #[.string ⟨#[]⟩, .string ⟨#[]⟩, .int .i64 0] HG.out (by first | kernel_rfl | rfl) rfl (by first | kernel_rfl | rfl) ?_))
  exact bodyPost_ret (Br rfl _ _ _ _ _ rfl (run_loadVar_row _ w.heap.size 102 102 _ (0, 0) _ (setRow_heap _ _ _ _ _ _ HG.out) Tryz.underlying102 rfl (by first | kernel_rfl | rfl))) rfl ⟨rfl, Bn HB.out (Nat.le_refl _) _⟩
theorem I0 (s : ByteArray) (w : World) (S1 S2 Bt Ft Rt : ByteArray) (X : Int) (m2 : Ft.toList.isEmpty = false)
   (C1 : Hid (∀ W, Ct 96 #[.string s, .int .i64 10] (.tuple #[.string ⟨#[]⟩, .string S1]) W))
   (C2 : Hid (∀ W, Cq 100 #[.string S1, .string ⟨#[46]⟩] (.tuple #[.string Bt, .bool true]) W))
   (C4 : Hid (∀ W, Ct 96 #[.string Bt, .int .i64 10] (.tuple #[.string Ft, .string S2]) W))
   (C3 : Hid (∀ W, Ct 134 #[.string S2] (.tuple #[.int .i64 X, .string Rt, .bool true]) W)) :
    Cp 102 #[.string s] w (fun e w' => e = .returned (.tuple #[.agg #[.string ⟨#[]⟩, .string Ft, .int .i64 X], .string Rt, .bool true]) ∧ Below w.heap.size w w') := by
  have R0 := Lh (Rd.start w)
  go_enter Tryz.func102, Tryz.ntmps102
  go_wp2_with fail
  refine Bm (C1.out _) fun w1 hb1 => ?_
  have R1 := Lh (R0.out.step hb1)
  clear hb1
  obtain ⟨c0, c1, c2, fz⟩ := R1.out.hi.cells
  have f0 := fz 0
  have f1 := fz 1
  have f2 := fz 2
  clear fz
  try unfold zs at c0
  try unfold zs at c1
  go_wp2_with fail
  refine (C2.out _).mono ?_
  rintro e w2 ⟨rfl, rfl⟩
  have R2 := Lh (R1.out.put0 (.string ⟨#[]⟩))
  generalize w1.setCell ⟨w.heap.size + 1, 0, none⟩ (.string ⟨#[]⟩) = w2 at *
  clear c0 c1 c2 f0 f1 f2
  obtain ⟨c0, c1, c2, fz⟩ := R2.out.hi.cells
  have f0 := fz 0
  have f1 := fz 1
  have f2 := fz 2
  clear fz
  try unfold zs at c0
  try unfold zs at c1
  go_wp2_with fail
  refine Bm (C4.out _) fun w3 hb3 => ?_
  have R3 := Lh (R2.out.step hb3)
  clear hb3 c0 c1 c2 f0 f1 f2
  obtain ⟨c0, c1, c2, fz⟩ := R3.out.hi.cells
  have f0 := fz 0
  have f1 := fz 1
  have f2 := fz 2
  clear fz
  try unfold zs at c0
  try unfold zs at c1
  have R4 := Lh (R3.out.put1 (.string Ft))
  obtain ⟨e0, e1, e2, ez⟩ := R4.out.hi.cells
  have g0 := ez 0
  have g1 := ez 1
  have g2 := ez 2
  clear ez
  go_wp2_with fail
  refine Bm (C3.out _) fun w5 hb5 => ?_
  have R5 := Lh (R4.out.step hb5)
  clear hb5 c0 c1 c2 f0 f1 f2
  obtain ⟨c0, c1, c2, fz⟩ := R5.out.hi.cells
  have f0 := fz 0
  have f1 := fz 1
  have f2 := fz 2
  clear fz
  try unfold zs at c0
  try unfold zs at c1
  have HR := Lh (R5.out.put2 (.int .i64 X))
  have HG := Lh (show (w5.setCell ⟨w.heap.size + 1, 2, none⟩ (.int .i64 X)).heap[w.heap.size]? = some (.cells #[.string ⟨#[]⟩, .string ⟨#[]⟩, .int .i64 0] 102 (0, 0)) from HR.out.lo)
  have HB := Lh HR.out.bw
  obtain ⟨d0, d1, d2, _⟩ := HR.out.hi.cells
  try unfold zs at d1
  go_wp2_with (first | (refine wpList_store_row rfl 102 _ _ rfl w.heap.size #[.string ⟨#[]⟩, .string Ft, .int .i64 X] rfl rfl 102 #[.string ⟨#[]⟩, .string ⟨#[]⟩, .int .i64 0] HG.out (by first | kernel_rfl | rfl) rfl (by first | kernel_rfl | rfl) ?_))
  exact bodyPost_ret (Br rfl _ _ _ _ _ rfl (run_loadVar_row _ w.heap.size 102 102 _ (0, 0) _ (setRow_heap _ _ _ _ _ _ HG.out) Tryz.underlying102 rfl (by first | kernel_rfl | rfl))) rfl ⟨rfl, Bn HB.out (Nat.le_refl _) _⟩
theorem M0 (s : ByteArray) (w : World) (S1 S2 Bt : ByteArray)
   (C1 : Hid (∀ W, Ct 96 #[.string s, .int .i64 10] (.tuple #[.string ⟨#[]⟩, .string S1]) W))
   (C2 : Hid (∀ W, Cq 100 #[.string S1, .string ⟨#[46]⟩] (.tuple #[.string Bt, .bool true]) W))
   (C4 : Hid (∀ W, Ct 96 #[.string Bt, .int .i64 10] (.tuple #[.string ⟨#[]⟩, .string S2]) W)) :
    Cp 102 #[.string s] w (fun e w' => e = .returned (.tuple #[.agg #[.string ⟨#[]⟩, .string ⟨#[]⟩, .int .i64 0], .string ⟨#[]⟩, .bool false]) ∧ Below w.heap.size w w') := by
  have R0 := Lh (Rd.start w)
  go_enter Tryz.func102, Tryz.ntmps102
  go_wp2_with fail
  refine Bm (C1.out _) fun w1 hb1 => ?_
  have R1 := Lh (R0.out.step hb1)
  clear hb1
  obtain ⟨c0, c1, c2, fz⟩ := R1.out.hi.cells
  have f0 := fz 0
  have f1 := fz 1
  have f2 := fz 2
  clear fz
  try unfold zs at c0
  try unfold zs at c1
  go_wp2_with fail
  refine (C2.out _).mono ?_
  rintro e w2 ⟨rfl, rfl⟩
  have R2 := Lh (R1.out.put0 (.string ⟨#[]⟩))
  generalize w1.setCell ⟨w.heap.size + 1, 0, none⟩ (.string ⟨#[]⟩) = w2 at *
  clear c0 c1 c2 f0 f1 f2
  obtain ⟨c0, c1, c2, fz⟩ := R2.out.hi.cells
  have f0 := fz 0
  have f1 := fz 1
  have f2 := fz 2
  clear fz
  try unfold zs at c0
  try unfold zs at c1
  go_wp2_with fail
  refine Bm (C4.out _) fun w3 hb3 => ?_
  have R3 := Lh (R2.out.step hb3)
  clear hb3 c0 c1 c2 f0 f1 f2
  obtain ⟨c0, c1, c2, fz⟩ := R3.out.hi.cells
  have f0 := fz 0
  have f1 := fz 1
  have f2 := fz 2
  clear fz
  try unfold zs at c0
  try unfold zs at c1
  have HG := Lh (show w3.heap[w.heap.size]? = some (.cells #[.string ⟨#[]⟩, .string ⟨#[]⟩, .int .i64 0] 102 (0, 0)) from R3.out.lo)
  have HB := Lh R3.out.bw
  go_wp2_with (first | (refine wpList_store_row rfl 102 _ _ rfl w.heap.size #[.string ⟨#[]⟩, .string ⟨#[]⟩, .int .i64 0] rfl rfl 102 #[.string ⟨#[]⟩, .string ⟨#[]⟩, .int .i64 0] HG.out (by first | kernel_rfl | rfl) rfl (by first | kernel_rfl | rfl) ?_))
  exact bodyPost_ret (Br rfl _ _ _ _ _ rfl (run_loadVar_row _ w.heap.size 102 102 _ (0, 0) _ (setRow_heap _ _ _ _ _ _ HG.out) Tryz.underlying102 rfl (by first | kernel_rfl | rfl))) rfl ⟨rfl, Bn HB.out (Nat.le_refl _) _⟩
end
end Go.Proofs.YtmakhfekiieneaaGreatDoor
