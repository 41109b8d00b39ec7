/-
  Contract of Mul of the program, and of the law's awake.
-/
import Derived.Test.YtlabblkonkhmgaaDoorAdd
import Derived.Test.YtlabblkonkhmgaaDoorLong
namespace Go.Proofs.YtlabblkonkhmgaaDoor
open Go.RowKit
/-- What stands in the row of a product when i words of a have been gone through. -/
structure MulT (a b : List Nat) (i : Nat) (P : List Nat) : Prop where
  len : P.length = a.length + b.length
  ws : Ws P
  zeros : ∀ j, i + b.length ≤ j → P.getD j 0 = 0
  sum : val (P.take (i + b.length)) = val (a.take i) * val b
theorem MulT.start (a b : List Nat) : MulT a b 0 (List.replicate (a.length + b.length) 0) :=
  ⟨List.length_replicate, Ws.zeros _, fun j _ => getD_zeros _ j, by
    rw [List.take_replicate, val_zeros]; simp [val]⟩
theorem MulT.next {a b : List Nat} {i : Nat} {P S : List Nat} {q : Nat} (h : MulT a b i P) (hi : i < a.length) (hS : AddT P i b (a.getD i 0) b.length S q) : MulT a b (i + 1) (S.set (i + b.length) q) := by
  obtain ⟨h1, h2, h3, h4⟩ := h
  obtain ⟨g1, g2, g3, g4, g5⟩ := hS
  refine ⟨by rw [List.length_set]; omega, g2.set g5, fun j hj => ?_, ?_⟩
  · rw [getD_set_ne (by omega), g3 j (by omega), h3 j (by omega)]
  · have hb : b.take b.length = b := List.take_of_length_le (Nat.le_refl _)
    rw [hb] at g4
    have e1 : (S.set (i + b.length) q).take (i + 1 + b.length) = (S.set (i + b.length) q).take (i + b.length + 1) := by congr 1; omega
    rw [e1, val_take_succ _ _ (by rw [List.length_set]; omega), getD_set_eq (by omega), val_take_succ a i hi]
    rw [take_congr (l := S.set (i + b.length) q) (m := S) (i + b.length) (by rw [List.length_set]; omega) (by omega) (fun j hj => getD_set_ne (by omega))]
    rw [val_part S i b.length (by omega)]
    rw [take_congr (l := S) (m := P) i (by omega) (by omega) (fun j hj => g3 j (by omega))]
    rw [val_part P i b.length (by omega)] at h4
    rw [Nat.pow_add]
    have e2 : val (P.take i) + 4294967296 ^ i * val ((S.drop i).take b.length) + 4294967296 ^ i * 4294967296 ^ b.length * q = val (P.take i) + 4294967296 ^ i * (val ((S.drop i).take b.length) + 4294967296 ^ b.length * q) := by grind
    rw [e2, g4]
    grind
theorem MulT.whole {a b : List Nat} {P : List Nat} (h : MulT a b a.length P) : val P = val a * val b := by
  have := h.sum
  rw [List.take_of_length_le (by rw [h.len]; exact Nat.le_refl _), List.take_of_length_le (Nat.le_refl _)] at this
  exact this
/-- What Mul tells. -/
def MulPost (v u : Nat) (w : World) (e : Ending) (w' : World) : Prop := if (lngB v || lngB u) = true then ErrPost 3 w e w' else NatPost (v * u) w e w'
theorem lng_len {l : List Nat} (h : Ws l) (hl : lngB (val l) = false) : (nrm l).length ≤ 1024 := by
  rw [lng_nrm h] at hl
  have := of_decide_eq_false hl
  omega
set_option maxRecDepth 100000 in
set_option maxHeartbeats 4000000 in
theorem mul_ok (A C : Option Addr) (n c m d : Nat) (l k : List Nat) (w : World) (hn : l.length = n) (hc : n ≤ c) (hm : n ≤ 35184372088832) (h : RW w w.heap.size A l)
    (gn : k.length = m) (gc : m ≤ d) (gm : m ≤ 35184372088832) (g : RW w w.heap.size C k) (hl : (lngB (val l) || lngB (val k)) = false) :
    Calls Tryd.prog 36 #[.slice A n c, .slice C m d] w (NatPost (val l * val k) w) := by
  have c1 := tooTwo_any A C n c m d l k w hn hc hm h gn gc gm g
  have hp : Below w.heap.size w (pair w (.slice A n c) (.slice C m d)) := (Below.refl _ _).alloc (Nat.le_refl _) _
  rw [hl] at c1
  obtain ⟨hl1, hl2⟩ : lngB (val l) = false ∧ lngB (val k) = false := by simpa using hl
  have c2 := cut_any A n c l w.heap.size _ hn hc hm (h.below hp)
  have c3 := cut_any C m d k w.heap.size _ gn gc gm (g.below hp)
  have n1 := lng_len h.1 hl1
  have n2 := lng_len g.1 hl2
  obtain ⟨a, ha⟩ : ∃ a, nrm l = a := ⟨_, rfl⟩
  obtain ⟨b, hb⟩ : ∃ b, nrm k = b := ⟨_, rfl⟩
  have hA := h.nrm
  have hB := g.nrm
  rw [ha] at n1 c2 hA
  rw [hb] at n2 c3 hB
  rw [← val_nrm l, ← val_nrm k, ha, hb]
  obtain ⟨N, hN⟩ : ∃ N, a.length = N := ⟨_, rfl⟩
  obtain ⟨M, hM⟩ : ∃ M, b.length = M := ⟨_, rfl⟩
  rw [hN] at n1 c2
  rw [hM] at n2 c3
  clear h g hn hc hm gn gc gm hl hl1 hl2 ha hb
  obtain ⟨W, hW⟩ : ∃ W, pair w (.slice A n c) (.slice C m d) = W := ⟨_, rfl⟩
  rw [hW] at c1 c2 c3 hp
  have HW := Lib.hid hW
  have hmk := run_make_row' (P := Tryd.prog) 22 42 (.int .u32 0) 4 Tryd.underlying22 infoW rfl .i64 .i64 (N + M) (by omega) (by omega) W
  rw [show ((N + M : Nat) : Int) = (N : Int) + (M : Int) by omega] at hmk
  have hrow := Row.made W (N + M)
  have hN1 : (N : Int) ≤ 1024 := by omega
  have hM1 : (M : Int) ≤ 1024 := by omega
  have HN := Lib.hid hN
  have HM := Lib.hid hM
  have HA := Lib.hid hA
  have HB := Lib.hid hB
  have hgW := hp.size
  have HP := Lib.hid hp
  have HROW := Lib.hid hrow
  have hbl0 : Below w.heap.size w (W.alloc (.cells (madeCells #[.int .u32 0] (N + M)) 42)) := hp.alloc hp.size _
  have HBL := Lib.hid hbl0
  clear hA hB hN hM hp hrow n1 n2 hbl0 hW
  go_enter Tryd.func36, Tryd.ntmps36
  go_wp2_with fail
  rw [show w.alloc (.cells #[.slice A n c, .slice C m d] 22) = W from HW.out]
  refine c1.mono ?_
  rintro e w1 ⟨rfl, rfl⟩
  go_wp2_with fail
  refine c2.mono ?_
  rintro e w1 ⟨rfl, rfl⟩
  go_wp2_with fail
  refine c3.mono ?_
  rintro e w1 ⟨rfl, rfl⟩
  clear c1 c2 c3
  go_wp2
  go_loopw [25] (fun i wr => ∃ (q : Nat) (P : List Nat), i = .int .i64 q ∧ q ≤ N ∧ Hid (Row wr W.heap.size P) ∧ Hid (MulT a b q P) ∧ Below w.heap.size w wr) (fun i _ => N - (intOf i).toNat)
  case atStart => exact ⟨0, _, rfl, Nat.zero_le _, HROW, Lib.hid (by have := MulT.start a b; rw [HN.out, HM.out] at this; exact this), HBL.out⟩
  case round =>
    obtain ⟨q, P, rfl, hq, HR, HT, hbw⟩ := hrel
    by_cases hlt : q < N
    · have hqa : q < a.length := by rw [HN.out]; exact hlt
      obtain ⟨ab, ao, rfl, hab, hca⟩ := HA.out.2 (by omega)
      have hcl := hca q _ (getD_some hqa)
      rw [← hbw.cell (p := ⟨ab, ao + q, none⟩) hab] at hcl
      have hx := HA.out.1.getD q
      have hPl : P.length = N + M := by rw [HT.out.len, HN.out, HM.out]
      obtain ⟨x, hxe⟩ : ∃ x, a.getD q 0 = x := ⟨_, rfl⟩
      rw [hxe] at hcl hx
      have C1 := Lib.hid (addTimes_any W.heap.size q (N + M - q) (N + M - q) P C M M b x w.heap.size wr HR.out HT.out.ws (by omega) (by omega) HM.out (HB.out.below hbw) hgW hx (by omega))
      have HX := Lib.hid hxe
      have HPL := Lib.hid hPl
      have hq1 : (q : Int) < (N : Int) := by omega
      have hq2 : ((N + M : Nat) == q) = false := by simp; omega
      have HNX := Lib.hid (fun S r (h : AddT P q b x b.length S r) => HT.out.next hqa (by rw [hxe]; exact h))
      clear hqa hab hca hx hPl hxe
      go_wp2_with fail
      refine C1.out.mono ?_
      rintro e w2 ⟨S, r, rfl, hrow2, hadd, hb2⟩
      have hSl : S.length = N + M := by rw [hadd.len]; exact HPL.out
      have hcell2 := hrow2.cell (q + M) (by omega)
      have hfz2 := hrow2.frozen (q + M)
      have HSET := Lib.hid (hrow2.set (q + M) r)
      have HMT := Lib.hid (show MulT a b (q + 1) (S.set (q + M) r) by have := HNX.out S r hadd; rw [HM.out] at this; exact this)
      have hbw2 : Below w.heap.size w w2 := hbw.trans (hb2.mono hgW)
      clear hrow2 hadd hSl C1
      go_wp2
      go_roundw
      case rel => exact ⟨q + 1, _, by go_num, by omega, HSET, HMT, hbw2.setCell hgW _⟩
      case measure => simp [intOf]; omega
    · have hqN : q = N := by omega
      have HMT := Lib.hid (show MulT a b a.length P by rw [HN.out, ← hqN]; exact HT.out)
      have hPl : P.length = N + M := by rw [HT.out.len, HN.out, HM.out]
      have hlt2 := HR.out.lt
      have C1 := Lib.hid (answer_any (some ⟨W.heap.size, 0, none⟩) (N + M) (N + M) P wr hPl (Nat.le_refl _) (by omega) ((HR.out.rw0 HT.out.ws).more hlt2))
      have HV := Lib.hid HMT.out.whole
      clear hPl hqN hlt2
      go_wp2_with fail
      refine C1.out.mono ?_
      rintro e w2 h
      have h2 := NatPost.from_ hbw h
      rw [HV.out] at h2
      obtain ⟨A2, n2, c2, k2, rfl, h3, h4⟩ := h2
      have H3 := Lib.hid h3
      have H4 := Lib.hid h4
      clear h h3 h4 C1
      go_wp2
      go_ret2
      exact ⟨A2, n2, c2, k2, rfl, H3.out, H4.out⟩
set_option maxHeartbeats 1000000 in
theorem mul_long (A C : Option Addr) (n c m d : Nat) (l k : List Nat) (w : World) (hn : l.length = n) (hc : n ≤ c) (hm : n ≤ 35184372088832) (h : RW w w.heap.size A l)
    (gn : k.length = m) (gc : m ≤ d) (gm : m ≤ 35184372088832) (g : RW w w.heap.size C k) (hl : (lngB (val l) || lngB (val k)) = true) :
    Calls Tryd.prog 36 #[.slice A n c, .slice C m d] w (ErrPost 3 w) := by
  have c1 := tooTwo_any A C n c m d l k w hn hc hm h gn gc gm g
  have hp : Below w.heap.size w (pair w (.slice A n c) (.slice C m d)) := (Below.refl _ _).alloc (Nat.le_refl _) _
  rw [hl] at c1
  have HP := Lib.hid hp
  clear h g hn hc hm gn gc gm hl hp
  go_enter Tryd.func36, Tryd.ntmps36
  go_wp2_with fail
  refine c1.mono ?_
  rintro e w1 ⟨rfl, rfl⟩
  go_wp2
  go_ret2
  exact ⟨rfl, HP.out⟩
theorem mul_any (A C : Option Addr) (n c m d : Nat) (l k : List Nat) (w : World) (hn : l.length = n) (hc : n ≤ c) (hm : n ≤ 35184372088832) (h : RW w w.heap.size A l)
    (gn : k.length = m) (gc : m ≤ d) (gm : m ≤ 35184372088832) (g : RW w w.heap.size C k) :
    Calls Tryd.prog 36 #[.slice A n c, .slice C m d] w (MulPost (val l) (val k) w) := by
  cases hl : (lngB (val l) || lngB (val k))
  · exact (mul_ok A C n c m d l k w hn hc hm h gn gc gm g hl).mono (fun e w' x => by unfold MulPost; rw [if_neg (by rw [hl]; simp)]; exact x)
  · exact (mul_long A C n c m d l k w hn hc hm h gn gc gm g hl).mono (fun e w' x => by unfold MulPost; rw [if_pos hl]; exact x)
theorem MulPost.ok {v u : Nat} {w w' : World} {e : Ending} (h : MulPost v u w e w') (hv : lngB v = false) (hu : lngB u = false) : NatPost (v * u) w e w' := by
  unfold MulPost at h
  rw [if_neg (by rw [hv, hu]; simp)] at h
  exact h
theorem lit_one (w : World) (x : Nat) (hx : x < 4294967296) : RW (w.alloc (.cells #[.int .u32 (x : Int)] 42)) (w.heap.size + 1) (some ⟨w.heap.size, 0, none⟩) [x] := ⟨Ws.cons hx Ws.nil, fun _ => by
  refine ⟨w.heap.size, 0, rfl, by omega, fun k u hu => ?_⟩
  rw [Nat.zero_add, cell_of_row _ _ _ _ _ _ (heap_alloc_new w (.cells #[.int .u32 (x : Int)] 42))]
  match k, hu with
  | 0, hu => simp at hu; subst hu; rfl
  | k + 1, hu => simp at hu⟩
theorem wds_awake : wds 18446744065119617025 = [1, 4294967294] := by
  have h := nrm_wds (l := [1, 4294967294]) (Ws.cons (by omega) (Ws.cons (by omega) Ws.nil))
  have v : val [1, 4294967294] = 18446744065119617025 := rfl
  rw [v, nrm_cons (by simp), nrm_cons (by simp)] at h
  exact h.symm
theorem lng_small {v : Nat} (h : v < 4294967296) : lngB v = false := by
  unfold lngB
  have := wds_len_lt (n := v) (k := 1) (by simpa using h)
  exact decide_eq_false (by omega)
theorem lng_awake : lngB 18446744065119617025 = false := by
  unfold lngB
  rw [wds_awake]
  exact decide_eq_false (by simp)
theorem NatPost.get {v : Nat} {w w' : World} {e : Ending} (h : NatPost v w e w') (hl : lngB v = false) : ∃ A c, e = .returned (.tuple #[.slice A (wds v).length c, .int .i64 0]) ∧ ((wds v).length ≤ c ∧ RW w' w'.heap.size A (wds v)) ∧ Below w.heap.size w w' := by
  obtain ⟨A, n, c, k, h1, h2, h3⟩ := h
  rw [if_neg (by rw [hl]; simp)] at h2
  obtain ⟨rfl, h4, rfl, h5⟩ := h2
  exact ⟨A, c, h1, ⟨h4, h5⟩, h3⟩
set_option maxRecDepth 100000 in
set_option maxHeartbeats 2000000 in
theorem awake_any (w : World) : Calls Tryd.prog 12 #[] w fun e w' => e = .returned (.bool true) ∧ Below w.heap.size w w' := by
  have hb1 : Below w.heap.size w (w.alloc (.cells #[.int .u32 4294967295] 42)) := (Below.refl _ _).alloc (Nat.le_refl _) _
  have r1 : RW (w.alloc (.cells #[.int .u32 4294967295] 42)) (w.alloc (.cells #[.int .u32 4294967295] 42)).heap.size (some ⟨w.heap.size, 0, none⟩) [4294967295] := (lit_one w 4294967295 (by omega)).more (by simp)
  obtain ⟨W, hW⟩ : ∃ W, w.alloc (.cells #[.int .u32 4294967295] 42) = W := ⟨_, rfl⟩
  have hs : W.heap.size = w.heap.size + 1 := by rw [← hW]; simp
  rw [hW] at hb1 r1
  have hb2 : Below W.heap.size W (W.alloc (.cells #[.int .u32 4294967295] 42)) := (Below.refl _ _).alloc (Nat.le_refl _) _
  have r2 : RW (W.alloc (.cells #[.int .u32 4294967295] 42)) (W.alloc (.cells #[.int .u32 4294967295] 42)).heap.size (some ⟨W.heap.size, 0, none⟩) [4294967295] := (lit_one W 4294967295 (by omega)).more (by simp)
  have c1 := (mul_any (some ⟨w.heap.size, 0, none⟩) (some ⟨W.heap.size, 0, none⟩) 1 1 1 1 [4294967295] [4294967295] _ rfl (Nat.le_refl _) (by omega) (r1.step hb2) rfl (Nat.le_refl _) (by omega) r2).mono
    (fun e w' h => (MulPost.ok h (lng_small (by decide)) (lng_small (by decide))).get (by rw [show val [4294967295] * val [4294967295] = 18446744065119617025 from rfl]; exact lng_awake))
  rw [show val [4294967295] * val [4294967295] = 18446744065119617025 from rfl, wds_awake] at c1
  rw [hs, ← hW] at c1
  have HB := Lib.hid (below_le hb1 hb2)
  have HW := Lib.hid hW
  clear hb1 hb2 r1 r2 hs hW
  go_enter Tryd.func12, Tryd.ntmps12
  go_wp2_with fail
  refine c1.mono ?_
  rintro e w2 ⟨A, c, rfl, ⟨hc, hr⟩, hb3⟩
  obtain ⟨b, off, rfl, _, hcell⟩ := hr.2 (by simp)
  have d1 : w2.cell? ⟨b, off, none⟩ = some (.int .u32 1) := hcell 0 1 rfl
  have d2 : w2.cell? ⟨b, off + 1, none⟩ = some (.int .u32 4294967294) := hcell 1 4294967294 rfl
  have hc2 : (2 : Int) ≤ (c : Int) := by simp at hc; omega
  rw [HW.out] at hb3
  have HB3 := Lib.hid (below_le HB.out hb3)
  clear hr hcell hb3 c1
  go_wp2
  go_ret
  exact ⟨rfl, HB3.out⟩
end Go.Proofs.YtlabblkonkhmgaaDoor
