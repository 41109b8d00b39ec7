/-
  Contracts of timesPlus of the program and of small of the reference.
-/
import Derived.Test.YtlabblkonkhmgaaDoorDivW
import Derived.Test.YtlabblkonkhmgaaDoorWordN
namespace Go.Proofs.YtlabblkonkhmgaaDoor
open Go.RowKit
theorem nrm_full {l : List Nat} (h : Ws l) (hv : l = [] ∨ 4294967296 ^ (l.length - 1) ≤ val l) : nrm l = l := by
  rcases hv with rfl | hv
  · rfl
  · have h1 := nrm_len l
    rcases Nat.lt_or_ge (nrm l).length l.length with h2 | h2
    · have h3 := val_lt h.nrm
      rw [val_nrm] at h3
      have h4 : 4294967296 ^ (nrm l).length ≤ 4294967296 ^ (l.length - 1) := Nat.pow_le_pow_right (by omega) (by omega)
      omega
    · have h3 := nrm_take l
      rw [List.take_of_length_le h2] at h3
      exact h3
/-- A list of words times x, and y, the first k words written. -/
structure TpT (a : List Nat) (x y k : Nat) (S : List Nat) (q : Nat) : Prop where
  len : S.length = a.length
  ws : Ws S
  far : ∀ j, k ≤ j → S.getD j 0 = a.getD j 0
  sum : val (S.take k) + 4294967296 ^ k * q = x * val (a.take k) + y
  low : q < 4294967296
theorem TpT.start {a : List Nat} (ha : Ws a) {x y : Nat} (hy : y < 4294967296) : TpT a x y 0 a y := ⟨rfl, ha, fun _ _ => rfl, by simp [val], hy⟩
def tpC (a : List Nat) (x k q : Nat) : Nat := q + a.getD k 0 * x
theorem tpC_lt {a : List Nat} {x k q : Nat} (ha : Ws a) (hx : x < 4294967296) (hq : q < 4294967296) : a.getD k 0 * x ≤ 18446744065119617025 ∧ tpC a x k q ≤ 18446744069414584320 := by
  have h1 := ha.getD k
  have h3 : a.getD k 0 * x ≤ 4294967295 * 4294967295 := Nat.mul_le_mul (by omega) (by omega)
  unfold tpC
  omega
theorem TpT.next {a : List Nat} {x y k : Nat} {S : List Nat} {q : Nat} (h : TpT a x y k S q) (ha : Ws a) (hx : x < 4294967296) (hk : k < a.length) :
    TpT a x y (k + 1) (S.set k (tpC a x k q % 4294967296)) (tpC a x k q / 4294967296) := by
  obtain ⟨h1, h2, h3, h4, h5⟩ := h
  have hc := (tpC_lt (k := k) ha hx h5).2
  refine ⟨by rw [List.length_set]; exact h1, h2.set (by omega), fun j hj => by rw [getD_set_ne (by omega)]; exact h3 j (by omega), ?_, by omega⟩
  rw [val_take_succ _ k (by rw [List.length_set]; omega), val_take_succ a k hk, getD_set_eq (by omega)]
  rw [take_congr (l := S.set k (tpC a x k q % 4294967296)) (m := S) k (by rw [List.length_set]; omega) (by omega) (fun j hj => getD_set_ne (by omega))]
  have e := step_words (4294967296 ^ k) (tpC a x k q) (val (S.take k)) (x * (val (a.take k) + 4294967296 ^ k * a.getD k 0) + y) (by
    have : tpC a x k q = q + a.getD k 0 * x := rfl
    rw [this]
    grind)
  rw [Nat.pow_succ]
  exact e
theorem TpT.fin {n x y q : Nat} {S : List Nat} (h : TpT (wds n) x y (wds n).length S q) (hx : 0 < x) : (if q = 0 then S else S ++ [q]) = wds (n * x + y) := by
  obtain ⟨h1, h2, h3, h4, h5⟩ := h
  rw [List.take_of_length_le (by omega), List.take_of_length_le (Nat.le_refl _), wds_val] at h4
  by_cases hq : q = 0
  · rw [if_pos hq]
    rw [hq, Nat.mul_zero, Nat.add_zero] at h4
    have hv : val S = n * x + y := by rw [h4, Nat.mul_comm]
    rw [← hv, ← nrm_wds h2]
    refine (nrm_full h2 ?_).symm
    rcases Nat.eq_zero_or_pos (wds n).length with h0 | h0
    · left; exact List.eq_nil_of_length_eq_zero (by omega)
    · right
      have h6 := val_ge (l := wds n) (by rw [wds_nrm]; intro e; rw [e] at h0; simp at h0)
      rw [wds_nrm, wds_val] at h6
      rw [h1, hv]
      have : n * 1 ≤ n * x := Nat.mul_le_mul_left _ hx
      omega
  · rw [if_neg hq]
    have hw : Ws (S ++ [q]) := h2.append (Ws.cons h5 Ws.nil)
    have hv : val (S ++ [q]) = n * x + y := by rw [val_snoc, h1, h4, Nat.mul_comm]
    rw [← hv, ← nrm_wds hw]
    refine (nrm_full hw (.inr ?_)).symm
    rw [val_snoc, List.length_append, List.length_singleton, Nat.add_sub_cancel]
    have : 4294967296 ^ S.length * 1 ≤ 4294967296 ^ S.length * q := Nat.mul_le_mul_left _ (by omega)
    omega
/-- Writing a word of a row of the call's own. -/
theorem OwnW.cell {B : Nat} {l : List Nat} {g n c : Nat} {w : World} (h : OwnW B l (.slice (some ⟨g, 0, none⟩) n c) w) (k : Nat) (hk : k < l.length) :
    w.cell? ⟨g, k, none⟩ = some (.int .u32 (l.getD k 0 : Nat)) ∧ w.frozen? ⟨g, k, none⟩ = false := by
  rcases h.2 with ⟨e, _⟩ | ⟨g', cap, cur, e, hB, hg, hcap, hmax, hcur, htk⟩
  · cases e
  · cases e
    refine ⟨?_, by simp [World.frozen?, hg]⟩
    have := World.ownsRow.cells (g := g) h rfl k (.int .u32 (l.getD k 0 : Nat)) (by rw [List.getElem?_map, getD_some hk]; rfl)
    by_cases hz : k = 0
    · subst hz; simpa [Addr.add] using this
    · simpa [Addr.add, hz] using this
theorem OwnW.set {B : Nat} {l : List Nat} {g n c : Nat} {w : World} (h : OwnW B l (.slice (some ⟨g, 0, none⟩) n c) w) (k u : Nat) :
    OwnW B (l.set k u) (.slice (some ⟨g, 0, none⟩) n c) (w.setCell ⟨g, k, none⟩ (.int .u32 (u : Nat))) := by
  rcases h.2 with ⟨e, _⟩ | ⟨g', cap, cur, e, hB, hg, hcap, hmax, hcur, htk⟩
  · cases e
  · cases e
    refine ⟨by rw [List.length_map, List.length_set, Nat.mul_one], .inr ⟨g, c, cur.set! k (.int .u32 (u : Nat)), by rw [List.length_set], hB, ?_, by rw [List.length_set]; exact hcap, hmax, ?_, ?_⟩⟩
    · simp [World.setCell, Array.getElem?_modify, hg]
    · simpa using hcur
    · rw [List.map_set, ← htk]
      simp only [Array.set!_eq_setIfInBounds, Array.toList_setIfInBounds, List.length_set]
      rw [List.take_set]
set_option maxRecDepth 100000 in
set_option maxHeartbeats 1000000 in
theorem timesPlus_any (B : Nat) (v : Value) (n x y : Nat) (w : World) (h : OwnW B (wds n) v w) (hB : B ≤ w.heap.size) (hl : (wds n).length ≤ 1024) (hx : x < 4294967296) (hx0 : 0 < x) (hy : y < 4294967296) :
    Calls Tryd.prog 31 #[v, .int .u32 x, .int .u32 y] w fun e w' => ∃ v', e = .returned v' ∧ OwnW B (wds (n * x + y)) v' w' ∧ Below B w w' := by
  obtain ⟨i0, hi, hz0, hz1, hz2⟩ := info_parts infoW
  have hy1 : IntKind.u64.wrap (y : Int) = (y : Int) := IntWalk.u64_in _ (by omega)
  have hx1 : IntKind.u64.wrap (x : Int) = (x : Int) := IntWalk.u64_in _ (by omega)
  have HX := Lib.hid hx
  have HX0 := Lib.hid hx0
  have HST := Lib.hid (TpT.start (x := x) (wds_ws n) hy)
  rcases h.2 with ⟨rfl, h0⟩ | ⟨g, cap, cur, rfl, hBg, hg, hcap, hmax, hcur, htk⟩
  · have hnil : wds n = [] := List.eq_nil_of_length_eq_zero h0
    have hn0 : n = 0 := by rw [← wds_val n, hnil]; rfl
    have HF := Lib.hid (show (if y = 0 then ([] : List Nat) else [y]) = wds (n * x + y) from by
      have := (show TpT (wds n) x y (wds n).length [] y from by rw [hnil]; exact TpT.start Ws.nil hy).fin hx0
      rw [← this]; rfl)
    have hOn : OwnW B [] (.slice none 0 0) w := OwnW.nil _ _
    by_cases hy0 : y = 0
    · rw [if_pos hy0] at HF
      have b0 : ((y : Int) == 0) = true := by rw [hy0]; rfl
      clear h hl hx hx0 hy h0 hnil hn0 hy0 HST
      go_enter Tryd.func31, Tryd.ntmps31
      go_wp2
      go_loopw [14, 7] (fun iv cv wr => iv = .int .i64 0 ∧ cv = .int .u64 (y : Nat) ∧ w = wr) (fun _ _ _ => 0)
      case atStart => exact ⟨rfl, rfl, rfl⟩
      case round =>
        obtain ⟨rfl, rfl, rfl⟩ := hrel
        go_wp2
        go_ret
        exact ⟨_, rfl, by rw [← HF.out]; exact hOn, Below.refl _ _⟩
    · rw [if_neg hy0] at HF
      have b0 : ((y : Int) == 0) = false := by simp; omega
      have k1 : IntKind.u32.wrap (y : Int) = (y : Int) := IntWalk.u32_in _ (by omega)
      clear h hl hx hx0 hy h0 hnil hn0 hy0 HST
      go_enter Tryd.func31, Tryd.ntmps31
      go_wp2
      go_loopw [14, 7] (fun iv cv wr => iv = .int .i64 0 ∧ cv = .int .u64 (y : Nat) ∧ w = wr) (fun _ _ _ => 0)
      case atStart => exact ⟨rfl, rfl, rfl⟩
      case round =>
        obtain ⟨rfl, rfl, rfl⟩ := hrel
        go_wp2_with (at_builtin; refine wpList_append_own _ rfl _ _ 22 rfl B 42 i0 (.int .u32 0) 1 4 Tryd.underlying22 hi hz0 hz1 hz2 rfl (by decide) _ _ _ rfl (World.ownsRow.alloc (w := w) hOn _) ⟨w.heap.size, 0, none⟩ 1 1 [.int .u32 (y : Nat)] rfl rfl ?c1 ?c2 ?c3 ?c4 ?c5 ?_)
        case c1 => exact (cell_one_new _ _ _)
        case c2 => simp [Value.oneCell']
        case c3 => simp [maxLen]
        case c4 => simp
        case c5 => simp; omega
        intro v' w2 hown hgr _
        have HO2 := Lib.hid (OwnW.snoc (L := []) hown)
        have hbb : Below B w w2 := ((Below.refl _ _).alloc hB _).grown hgr (by simp; omega) (fun j hj => by simp [Value.ownBlock] at hj)
        clear hown hgr
        go_wp2
        go_ret
        exact ⟨_, rfl, by rw [← HF.out]; exact HO2.out, hbb⟩
  · obtain ⟨N, hN⟩ : ∃ N, (wds n).length = N := ⟨_, rfl⟩
    have HO0 := Lib.hid h
    have HN := Lib.hid hN
    have HWS := Lib.hid (wds_ws n)
    rw [hN] at hl hcap HO0 ⊢
    have hN1 : (N : Int) ≤ 1024 := by omega
    clear h hx hx0 hy hg hcur htk hN hmax
    go_enter Tryd.func31, Tryd.ntmps31
    go_wp2
    go_loopw [14, 7] (fun iv cv wr => ∃ (k : Nat) (S : List Nat) (q : Nat), iv = .int .i64 (k : Nat) ∧ cv = .int .u64 (q : Nat) ∧ k ≤ N ∧ Hid (OwnW B S (.slice (some ⟨g, 0, none⟩) N cap) wr) ∧ Hid (TpT (wds n) x y k S q) ∧ Below B w wr) (fun iv _ _ => N - (intOf iv).toNat)
    case atStart => exact ⟨0, wds n, y, rfl, rfl, Nat.zero_le _, HO0, HST, Below.refl _ _⟩
    case round =>
      obtain ⟨k, S, q, rfl, rfl, hk, HO, HT, hbw⟩ := hrel
      by_cases hlt : k < N
      · have hkl : k < (wds n).length := by rw [HN.out]; exact hlt
        have hnx := HT.out.next HWS.out HX.out hkl
        obtain ⟨hcell, hfz⟩ := HO.out.cell k (by rw [HT.out.len]; exact hkl)
        rw [HT.out.far k (Nat.le_refl _)] at hcell
        obtain ⟨l1, l2⟩ := tpC_lt (k := k) HWS.out HX.out HT.out.low
        have ul := HWS.out.getD k
        have ql := HT.out.low
        have et : tpC (wds n) x k q = q + (wds n).getD k 0 * x := rfl
        obtain ⟨t, ht⟩ : ∃ t, tpC (wds n) x k q = t := ⟨_, rfl⟩
        obtain ⟨u, hu⟩ : ∃ u, (wds n).getD k 0 = u := ⟨_, rfl⟩
        rw [ht] at hnx l2 et
        rw [hu] at hcell l1 ul et
        have HOS := Lib.hid (HO.out.set k (t % 4294967296))
        have HNX := Lib.hid hnx
        have k1 : IntKind.u64.wrap (u : Int) = (u : Int) := IntWalk.u64_in _ (by omega)
        have k2 : IntKind.u64.wrap ((u : Int) * (x : Int)) = (u : Int) * (x : Int) := IntWalk.u64_in _ (by
          have : ((u * x : Nat) : Int) = (u : Int) * (x : Int) := Int.natCast_mul u x
          omega)
        have k3 : IntKind.u64.wrap ((q : Int) + (u : Int) * (x : Int)) = (t : Int) := by
          have : ((u * x : Nat) : Int) = (u : Int) * (x : Int) := Int.natCast_mul u x
          rw [IntWalk.u64_in _ (by omega)]
          omega
        have hk1 : (k : Int) < (N : Int) := by omega
        rw [show ((t % 4294967296 : Nat) : Int) = (t : Int) % 4294967296 by omega] at HOS
        clear hkl hnx l1 l2 ul ql et ht hu
        go_wp2
        go_roundw
        case rel => exact ⟨k + 1, _, t / 4294967296, by go_num, by go_num, by omega, HOS, HNX, hbw.setCell hBg _⟩
        case measure => simp [intOf]; omega
      · have hkN : k = N := by omega
        have hT2 : TpT (wds n) x y (wds n).length S q := by rw [HN.out, ← hkN]; exact HT.out
        have HF := Lib.hid (hT2.fin HX0.out)
        have hql := HT.out.low
        have hSl := HT.out.len
        have hSW := HT.out.ws
        by_cases hq0 : q = 0
        · rw [if_pos hq0] at HF
          have b0 : ((q : Int) == 0) = true := by rw [hq0]; rfl
          clear hT2 hql hSl hSW hq0 hkN
          go_wp2
          go_ret
          exact ⟨_, rfl, by rw [← HF.out]; exact HO.out, hbw⟩
        · rw [if_neg hq0] at HF
          have b0 : ((q : Int) == 0) = false := by simp; omega
          have k1 : IntKind.u32.wrap (q : Int) = (q : Int) := IntWalk.u32_in _ (by omega)
          have HSL := Lib.hid (show (N + 1) * 4 ≤ 140737488355328 ∧ N + 1 ≤ maxLen ∧ S.length = N from by unfold maxLen; rw [hSl, HN.out]; omega)
          have hbs := hbw.size
          have hon : wr.ownsRow B 42 1 (.slice (some ⟨g, 0, none⟩) N cap) N (S.map fun u => Value.int .u32 (u : Nat)) := by
            have := HO.out
            unfold OwnW at this
            rw [HSL.out.2.2] at this
            exact this
          have HON := Lib.hid hon
          clear hT2 hql hSl hSW hq0 hkN hon
          go_wp2_with (at_builtin; refine wpList_append_own _ rfl _ _ 22 rfl B 42 i0 (.int .u32 0) 1 4 Tryd.underlying22 hi hz0 hz1 hz2 rfl (by decide) _ _ _ rfl (World.ownsRow.alloc (w := wr) HON.out _) ⟨wr.heap.size, 0, none⟩ 1 1 [.int .u32 (q : Nat)] rfl rfl ?c1 ?c2 ?c3 ?c4 ?c5 ?_)
          case c1 => exact (cell_one_new _ _ _)
          case c2 => simp [Value.oneCell']
          case c3 => exact HSL.out.2.1
          case c4 => exact HSL.out.1
          case c5 => simp; omega
          intro v' w2 hown hgr _
          rw [← HSL.out.2.2] at hown
          have HO2 := Lib.hid (OwnW.snoc hown)
          have hbb : Below B w w2 := (hbw.alloc (by omega) _).grown hgr (by simp; omega) (fun j hj => (World.ownsRow.lt HO.out j hj).1)
          clear hown hgr
          go_wp2
          go_ret
          exact ⟨_, rfl, by rw [← HF.out]; exact HO2.out, hbb⟩
theorem own_low {B C : Nat} {l : List Nat} {v : Value} {w : World} (h : OwnW C l v w) (hB : B ≤ C) : OwnW B l v w :=
  ⟨h.1, h.2.imp id (fun ⟨g, cap, cur, e, h1, r⟩ => ⟨g, cap, cur, e, Nat.le_trans hB h1, r⟩)⟩
/-- The state of the division by a word d in a row of its own: the words from i on are the quotient's, and r is the rest so far. -/
structure SmT (a : List Nat) (d i : Nat) (S : List Nat) (r : Nat) : Prop where
  len : S.length = a.length
  ws : Ws S
  sum : val (S.drop i) * d + r = val (a.drop i)
  low : r < d
theorem SmT.start (a : List Nat) {d : Nat} (hd : 0 < d) : SmT a d a.length (List.replicate a.length 0) 0 :=
  ⟨List.length_replicate, Ws.zeros _, by rw [List.drop_of_length_le (by rw [List.length_replicate]; exact Nat.le_refl _), List.drop_of_length_le (Nat.le_refl _)]; simp [val], hd⟩
theorem SmT.next {a : List Nat} {d i : Nat} {S : List Nat} {r : Nat} (h : SmT a d (i + 1) S r) (ha : Ws a) (hi : i < a.length) (hd : d < 4294967296) :
    (r * 4294967296 + a.getD i 0) / d < 4294967296 ∧ r * 4294967296 + a.getD i 0 < 18446744073709551616 ∧ SmT a d i (S.set i ((r * 4294967296 + a.getD i 0) / d)) ((r * 4294967296 + a.getD i 0) % d) := by
  obtain ⟨h1, h2, h4, h5⟩ := h
  have hx := ha.getD i
  have hd0 : 0 < d := by omega
  have hq : (r * 4294967296 + a.getD i 0) / d < 4294967296 := by
    rw [Nat.div_lt_iff_lt_mul hd0]
    have : (r + 1) * 4294967296 ≤ d * 4294967296 := Nat.mul_le_mul_right _ h5
    omega
  refine ⟨hq, by omega, by rw [List.length_set]; exact h1, h2.set hq, ?_, Nat.mod_lt _ hd0⟩
  rw [val_drop_cons _ i (by rw [List.length_set]; omega), getD_set_eq (by omega), val_drop_cons a i hi, List.drop_set, if_pos (by omega)]
  have e := Nat.mod_add_div (r * 4294967296 + a.getD i 0) d
  generalize (r * 4294967296 + a.getD i 0) / d = q at *
  generalize (r * 4294967296 + a.getD i 0) % d = z at *
  generalize val (S.drop (i + 1)) = V at *
  rw [← h4]
  grind
theorem SmT.fin {a : List Nat} {d : Nat} {S : List Nat} {r : Nat} (h : SmT a d 0 S r) : val S = val a / d ∧ r = val a % d := by
  obtain ⟨h1, h2, h4, h5⟩ := h
  rw [List.drop_zero, List.drop_zero] at h4
  have e1 : val a / d = val S := by
    rw [← h4, Nat.add_comm, Nat.add_mul_div_right _ _ (by omega), Nat.div_eq_of_lt h5, Nat.zero_add]
  have e2 := Nat.mod_add_div (val a) d
  rw [e1, Nat.mul_comm] at e2
  exact ⟨e1.symm, by omega⟩
set_option maxRecDepth 100000 in
set_option maxHeartbeats 1000000 in
theorem rsmall_any (A : Option Addr) (n c d : Nat) (a : List Nat) (w : World) (hn : a.length = n) (hm : n ≤ 1024) (h : RW w w.heap.size A a) (hd : d < 4294967296) (hd0 : 0 < d) :
    Calls Tryd.prog 28 #[.slice A n c, .int .u32 d] w (fun e w' => ∃ v2, e = .returned (.tuple #[v2, .int .u32 (val a % d : Nat)]) ∧ OwnW w.heap.size (wds (val a / d)) v2 w' ∧ Below w.heap.size w w') := by
  have hmk := run_make_row' (P := Tryd.prog) 22 42 (.int .u32 0) 4 Tryd.underlying22 infoW rfl .i64 .i64 n (by omega) (by omega) w
  have HROW := Lib.hid (Row.made w n)
  have HBL := Lib.hid (show Below w.heap.size w (w.alloc (.cells (madeCells #[.int .u32 0] n) 42)) from (Below.refl _ _).alloc (Nat.le_refl _) _)
  have HA := Lib.hid h
  have HN := Lib.hid hn
  have HD := Lib.hid hd
  have HD0 := Lib.hid hd0
  have hn1 : (n : Int) ≤ 1024 := by omega
  have kd : IntKind.u64.wrap (d : Int) = (d : Int) := IntWalk.u64_in _ (by omega)
  have d0 : ((d : Int) == 0) = false := by simp; omega
  have d1 : ¬ (d : Int) = 0 := by omega
  have HST := Lib.hid (show SmT a d n (List.replicate n 0) 0 from by rw [← hn]; exact SmT.start a hd0)
  clear h hn hm hd hd0
  go_enter Tryd.func28, Tryd.ntmps28
  go_wp2
  clear hmk
  go_loopw [7, 8] (fun rv iv wr => ∃ (k : Nat) (Q : List Nat) (r : Nat), iv = .int .i64 ((k : Int) - 1) ∧ rv = .int .u64 (r : Nat) ∧ k ≤ n ∧ Hid (Row wr w.heap.size Q) ∧ Hid (SmT a d k Q r) ∧ Below w.heap.size w wr) (fun _ iv _ => (intOf iv + 1).toNat)
  case atStart => exact ⟨n, _, 0, by first | rfl | go_num, rfl, Nat.le_refl _, HROW, HST, HBL.out⟩
  case round =>
    obtain ⟨k, Q, r, rfl, rfl, hk, HR, HT, hbw⟩ := hrel
    have hQl : Q.length = n := by rw [HT.out.len, HN.out]
    by_cases h0 : k = 0
    · subst h0
      obtain ⟨f1, f2⟩ := HT.out.fin
      have hlt := HR.out.lt
      have C1 := Lib.hid ((rnorm_any (some ⟨w.heap.size, 0, none⟩) n n Q wr.heap.size wr hQl (Nat.le_refl _) (by omega) ((HR.out.rw0 HT.out.ws).more hlt)))
      rw [nrm_wds HT.out.ws, f1] at C1
      have k1 : IntKind.u32.wrap (r : Int) = (r : Int) := IntWalk.u32_in _ (by have := HT.out.low; have := HD.out; omega)
      have HF2 := Lib.hid f2
      clear f1 f2 hlt hQl
      go_wp2_with fail
      refine C1.out.mono ?_
      rintro e w2 ⟨v2, rfl, ho2, b2⟩
      have H2 := Lib.hid (own_low ho2 hbw.size)
      have H5 := Lib.hid (below_le hbw b2)
      obtain ⟨A2, c2, hv2, _, _⟩ := ho2.sl (wds_ws _)
      subst hv2
      clear ho2 b2 C1
      go_wp2
      go_ret2
      exact ⟨_, congrArg (fun z : Nat => Ending.returned (.tuple #[.slice A2 (wds (val a / d)).length c2, .int .u32 (z : Int)])) HF2.out, H2.out, H5.out⟩
    · obtain ⟨j, rfl⟩ : ∃ j, k = j + 1 := ⟨k - 1, by omega⟩
      rw [show (((j + 1 : Nat) : Int) - 1) = (j : Int) by omega]
      have hja : j < a.length := by rw [HN.out]; omega
      obtain ⟨e2, e3, hnx⟩ := HT.out.next HA.out.1 hja HD.out
      obtain ⟨ab, ao, rfl, hab, hca⟩ := HA.out.2 (by omega)
      have hcl := hca j _ (getD_some hja)
      rw [← hbw.cell (p := ⟨ab, ao + j, none⟩) hab] at hcl
      have hcell := HR.out.cell j (by rw [hQl]; omega)
      have hfz := HR.out.frozen j
      have hx := HA.out.1.getD j
      obtain ⟨x, hxe⟩ : ∃ x, a.getD j 0 = x := ⟨_, rfl⟩
      rw [hxe] at hcl e2 e3 hnx hx
      obtain ⟨t, ht⟩ : ∃ t, r * 4294967296 + x = t := ⟨_, rfl⟩
      obtain ⟨U, hU⟩ : ∃ U, r * 4294967296 = U := ⟨_, rfl⟩
      have hor := two_word r x hx
      rw [ht] at e2 e3 hnx hor
      rw [hU] at ht hor
      have k1 : IntKind.u64.wrap ((r : Int) * 4294967296) = (U : Int) := by rw [IntWalk.u64_in _ (by omega)]; omega
      have k2 : IntKind.u64.wrap (x : Int) = (x : Int) := IntWalk.u64_in _ (by omega)
      have k3 : bits BinOp.or IntKind.u64 (U : Int) (x : Int) = (t : Int) := by rw [or_u64 U x (by omega) (by omega), hor]
      obtain ⟨q, hq⟩ : ∃ q, t / d = q := ⟨_, rfl⟩
      obtain ⟨z, hz⟩ : ∃ z, t % d = z := ⟨_, rfl⟩
      rw [hq] at e2
      rw [hq, hz] at hnx
      have hzl : z < 4294967296 := by rw [← hz]; exact Nat.lt_trans (Nat.mod_lt _ HD0.out) HD.out
      have k4 : IntKind.u64.wrap ((t : Int) / (d : Int)) = (q : Int) := by rw [← Int.natCast_ediv, hq]; exact IntWalk.u64_in _ (by omega)
      have k5 : (t : Int) / (d : Int) = (q : Int) := by rw [← Int.natCast_ediv, hq]
      have k6 : (t : Int) % (d : Int) = (z : Int) := by rw [← Int.natCast_emod, hz]
      have k7 : IntKind.u32.wrap (q : Int) = (q : Int) := IntWalk.u32_in _ (by omega)
      have k8 : IntKind.u64.wrap (q : Int) = (q : Int) := IntWalk.u64_in _ (by omega)
      have k9 : IntKind.u64.wrap (z : Int) = (z : Int) := IntWalk.u64_in _ (by omega)
      have HSET := Lib.hid (HR.out.set j q)
      have HNX := Lib.hid hnx
      have hjn : (j : Int) < (n : Int) := by omega
      clear e2 e3 hnx hja hx hxe hq hz h0 hca hQl ht hU hor hzl hab
      go_wp2
      go_roundw
      case rel => exact ⟨j, _, z, by go_num, by rw [k6], by omega, HSET, HNX, hbw.setCell (Nat.le_refl _) _⟩
      case measure => simp [intOf]
end Go.Proofs.YtlabblkonkhmgaaDoor
