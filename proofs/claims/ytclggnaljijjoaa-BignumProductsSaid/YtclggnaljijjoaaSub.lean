/-
  Contract of Sub of the program.
-/
import Derived.Test.YtclggnaljijjoaaSub32
import Derived.Deep.RegionWith
import Derived.Deep.DeepCutAuto
namespace Go.Proofs.Ytclggnaljijjoaa
open Go.RowKit
theorem below_drew {B : Nat} {a w : World} (h : Below B a w) : Below B a w.drew := ⟨h.os, h.tape, h.output, h.size, h.block⟩
/-- What Sub tells. -/
def SubP (v u : Nat) (w : World) (e : Ending) (w' : World) : Prop := if (lngB v || lngB u) = true then ErrPost 3 w e w' else if v < u then ErrPost 1 w e w' else NatPost (v - u) w e w'
set_option maxRecDepth 100000 in
set_option maxHeartbeats 4000000 in
theorem sub_ok (A C : Option Addr) (n c m d : Nat) (l k : List Nat) (w : World) (hn : l.length = n) (hc : n ≤ c) (hm : n ≤ 35184372088832) (h : RW w w.heap.size A l)
    (gn : k.length = m) (gc : m ≤ d) (gm : m ≤ 35184372088832) (g : RW w w.heap.size C k) (hl : (lngB (val l) || lngB (val k)) = false) (hle : val k ≤ val l) :
    Calls Try.prog 23 #[.slice A n c, .slice C m d] w (NatPost (val l - val k) w) := by
  have c1 := tooTwo_any A C n c m d l k w hn hc hm h gn gc gm g
  have hp : Below w.heap.size w (pair w (.slice A n c) (.slice C m d)) := (Below.refl _ _).alloc (Nat.le_refl _) _
  rw [hl] at c1
  obtain ⟨hl1, hl2⟩ : lngB (val l) = false ∧ lngB (val k) = false := by simpa using hl
  have c4 := cmp_any A C n c m d l k w.heap.size w.heap.size _ hn hc hm (h.below hp) gn gc gm (g.below hp)
  have c2 := fun j => cut_any A n c l w.heap.size ((pair w (.slice A n c) (.slice C m d)).drewN j) hn hc hm (h.below (below_drewN' hp j))
  have c3 := fun j => cut_any C m d k w.heap.size ((pair w (.slice A n c) (.slice C m d)).drewN j) gn gc gm (g.below (below_drewN' hp j))
  have hord : ord l k = 0 ∨ ord l k = 1 := by
    rcases Nat.lt_or_ge (val k) (val l) with h1 | h1
    · exact .inr (ord_gt h1)
    · exact .inl (ord_eq (by omega))
  have n1 := lng_len h.1 hl1
  have n12 : (nrm k).length ≤ (nrm l).length := by
    rcases Nat.lt_or_ge (nrm l).length (nrm k).length with h1 | h1
    · have := cmp_len h.1 h1; omega
    · exact h1
  obtain ⟨a, ha⟩ : ∃ a, nrm l = a := ⟨_, rfl⟩
  obtain ⟨b, hb⟩ : ∃ b, nrm k = b := ⟨_, rfl⟩
  have hA := h.nrm
  have hB := g.nrm
  rw [ha] at n1 c2 hA n12
  rw [hb] at c3 hB n12
  rw [← val_nrm l, ← val_nrm k, ha, hb] at hle ⊢
  obtain ⟨N, hN⟩ : ∃ N, a.length = N := ⟨_, rfl⟩
  obtain ⟨M, hM⟩ : ∃ M, b.length = M := ⟨_, rfl⟩
  rw [hN] at n1 c2 n12
  rw [hM] at c3 n12
  obtain ⟨o, ho⟩ : ∃ o, ord l k = o := ⟨_, rfl⟩
  rw [ho] at c4 hord
  clear h g hn hc hm gn gc gm hl hl1 hl2 ha hb ho
  obtain ⟨W, hW⟩ : ∃ W, pair w (.slice A n c) (.slice C m d) = W := ⟨_, rfl⟩
  rw [hW] at c1 c2 c3 c4 hp
  have HW := Lib.hid hW
  have hmk := fun j => run_make_row' (P := Try.prog) 22 40 (.int .u32 0) 4 Try.underlying22 infoW rfl .i64 .i64 N (by omega) (by omega) (W.drewN j)
  have hNN : (N : Int) ≤ 1024 := by omega
  have HN := Lib.hid hN
  have HM := Lib.hid hM
  have HA := Lib.hid hA
  have HB := Lib.hid hB
  have hgW := hp.size
  have HROW := Lib.hid (fun j => Row.made (W.drewN j) N)
  have HBL := Lib.hid (fun j => (show Below w.heap.size w ((W.drewN j).alloc (.cells (madeCells #[.int .u32 0] N) 40)) from (below_drewN' hp j).alloc hp.size _))
  have N12 := Lib.hid n12
  have HLE := Lib.hid hle
  clear hA hB hN hM hp n1 n12 hW hle
  rcases hord with rfl | rfl
  all_goals
    go_enter Try.func23, Try.ntmps23
    go_wp2_with fail
    rw [show w.alloc (.cells #[.slice A n c, .slice C m d] 22) = W from HW.out]
    refine c1.mono ?_
    rintro e w1 ⟨rfl, rfl⟩
    go_wp2_with fail
    refine c4.mono ?_
    rintro e w1 ⟨rfl, j0, rfl⟩
    go_wp2_with fail
    refine (c2 _).mono ?_
    rintro e w1 ⟨rfl, rfl⟩
    go_wp2_with fail
    refine (c3 _).mono ?_
    rintro e w1 ⟨rfl, rfl⟩
    have hmk0 := hmk j0
    clear c1 c2 c3 c4 hmk
    go_wp2
    go_loopw [26, 7] (fun i v wr => ∃ (q : Nat) (S : List Nat) (r : Nat), i = .int .i64 q ∧ v = .int .u32 (r : Nat) ∧ q ≤ N ∧ Hid (Row wr W.heap.size S) ∧ Hid (SubT a b q S r) ∧ Hid (S.length = N) ∧ Below w.heap.size w wr) (fun i _ _ => N - (intOf i).toNat)
    case atStart => exact ⟨0, _, 0, rfl, rfl, Nat.zero_le _, Lib.hid (HROW.out j0), Lib.hid (SubT.start a b _ (Ws.zeros _)), Lib.hid List.length_replicate, HBL.out j0⟩
    case round =>
      obtain ⟨q, S, r, rfl, rfl, hq, HR, HT, HSL, hbw⟩ := hrel
      by_cases hlt : q < N
      · have hx := HA.out.1.getD q
        have hy := HB.out.1.getD q
        have hr := HT.out.low
        have hcell := HR.out.cell q (by rw [HSL.out]; exact hlt)
        have hfz := HR.out.frozen q
        obtain ⟨ab, ao, hAe, hab, hca⟩ := HA.out.2 (by rw [HN.out]; omega)
        have hcl := hca q _ (getD_some (by rw [HN.out]; exact hlt))
        rw [← hbw.cell (p := ⟨ab, ao + q, none⟩) hab] at hcl
        obtain ⟨t, ht⟩ : ∃ t, subW a b q r = t := ⟨_, rfl⟩
        obtain ⟨r2, hr2⟩ : ∃ r2, subC a b q r = r2 := ⟨_, rfl⟩
        have htl : t < 4294967296 := by rw [← ht]; unfold subW; omega
        have C2 := Lib.hid (fun W (hB : Below w.heap.size w W) => word_nat C M M q b w.heap.size W HM.out (by have := N12.out; omega) (HB.out.below hB))
        have C3 := Lib.hid (fun W => show Calls Try.prog 47 #[.int .u32 (a.getD q 0 : Nat), .int .u32 (b.getD q 0 : Nat), .int .u32 (r : Nat)] W fun e w' => e = .returned (.tuple #[.int .u32 (t : Nat), .int .u32 (r2 : Nat)]) ∧ W = w' from by
          have := sub32_any (a.getD q 0) (b.getD q 0) r W hx hy hr
          rw [show (a.getD q 0 + 4294967296 * 2 - b.getD q 0 - r) % 4294967296 = t from ht, show (if a.getD q 0 < b.getD q 0 + r then 1 else 0) = r2 from hr2] at this
          exact this)
        have hbd : Below w.heap.size w wr.drew := ⟨hbw.os, hbw.tape, hbw.output, hbw.size, hbw.block⟩
        obtain ⟨x, hxe⟩ : ∃ x, a.getD q 0 = x := ⟨_, rfl⟩
        rw [hxe] at hcl C3
        have HSET := Lib.hid (HR.out.set q t)
        have HNX := Lib.hid (show SubT a b (q + 1) (S.set q t) r2 by
          rw [← hr2]
          refine HT.out.next HA.out.1 HB.out.1 (HT.out.ws.set htl) ?_ ?_
          · exact take_congr q (by rw [List.length_set, HSL.out]; omega) (by rw [HSL.out]; omega) (fun j hj => getD_set_ne (by omega))
          · rw [getD_set_eq (by rw [HSL.out]; exact hlt), ht])
        have HSL2 := Lib.hid (show (S.set q t).length = N by rw [List.length_set]; exact HSL.out)
        have hq1 : (q : Int) < (N : Int) := by omega
        have hq0 : (0 : Int) ≤ (q : Int) := by omega
        subst hAe
        clear hx hy hr ht htl hr2 hxe hca hab
        go_wp2
        go_region_with (first
            | (go_at_call 42; refine (C2.out _ ?_).mono ?_; exact hbd; rintro e w' ⟨rfl, rfl⟩)
            | (go_at_call 47; refine (C3.out _).mono ?_; rintro e w' ⟨rfl, rfl⟩))
        all_goals
          go_wp2_with fail
          go_roundw
          case rel => exact ⟨q + 1, _, r2, by go_num, rfl, by omega, Lib.hid (show Row _ _ _ from HSET.out), HNX, HSL2, below_drew (hbw.setCell hgW _)⟩
          case measure => simp [intOf]; omega
      · have hqN : q = N := by omega
        have hlt2 := HR.out.lt
        have HV := Lib.hid (show val S = val a - val b from (hqN ▸ HT.out : SubT a b N S r).whole (by rw [HN.out]; exact Nat.le_refl _) (by rw [HM.out]; exact N12.out) HSL.out HLE.out)
        have C1 := Lib.hid (answer_any (some ⟨W.heap.size, 0, none⟩) N N S wr HSL.out (Nat.le_refl _) (by omega) ((HR.out.rw0 HT.out.ws).more hlt2))
        have hq1 : ¬ (q : Int) < (N : Int) := by omega
        clear hqN hlt2
        go_wp2_with fail
        refine C1.out.mono ?_
        rintro e w2 h
        have h2 := NatPost.from_ hbw h
        rw [HV.out] at h2
        obtain ⟨A2, n2, c2, k2, rfl, h3, h4⟩ := h2
        have H3 := Lib.hid h3
        have H4 := Lib.hid h4
        clear h h3 h4 C1
        go_wp2
        go_ret2
        exact ⟨A2, n2, c2, k2, rfl, H3.out, H4.out⟩
set_option maxHeartbeats 1000000 in
theorem sub_long (A C : Option Addr) (n c m d : Nat) (l k : List Nat) (w : World) (hn : l.length = n) (hc : n ≤ c) (hm : n ≤ 35184372088832) (h : RW w w.heap.size A l)
    (gn : k.length = m) (gc : m ≤ d) (gm : m ≤ 35184372088832) (g : RW w w.heap.size C k) (hl : (lngB (val l) || lngB (val k)) = true) :
    Calls Try.prog 23 #[.slice A n c, .slice C m d] w (ErrPost 3 w) := by
  have c1 := tooTwo_any A C n c m d l k w hn hc hm h gn gc gm g
  have hp : Below w.heap.size w (pair w (.slice A n c) (.slice C m d)) := (Below.refl _ _).alloc (Nat.le_refl _) _
  rw [hl] at c1
  have HP := Lib.hid hp
  clear h g hn hc hm gn gc gm hl hp
  go_enter Try.func23, Try.ntmps23
  go_wp2_with fail
  refine c1.mono ?_
  rintro e w1 ⟨rfl, rfl⟩
  go_wp2
  go_ret2
  exact ⟨rfl, HP.out⟩
set_option maxHeartbeats 1000000 in
theorem sub_less (A C : Option Addr) (n c m d : Nat) (l k : List Nat) (w : World) (hn : l.length = n) (hc : n ≤ c) (hm : n ≤ 35184372088832) (h : RW w w.heap.size A l)
    (gn : k.length = m) (gc : m ≤ d) (gm : m ≤ 35184372088832) (g : RW w w.heap.size C k) (hl : (lngB (val l) || lngB (val k)) = false) (hlt : val l < val k) :
    Calls Try.prog 23 #[.slice A n c, .slice C m d] w (ErrPost 1 w) := by
  have c1 := tooTwo_any A C n c m d l k w hn hc hm h gn gc gm g
  have hp : Below w.heap.size w (pair w (.slice A n c) (.slice C m d)) := (Below.refl _ _).alloc (Nat.le_refl _) _
  rw [hl] at c1
  have c4 := cmp_any A C n c m d l k w.heap.size w.heap.size _ hn hc hm (h.below hp) gn gc gm (g.below hp)
  rw [ord_lt hlt] at c4
  have HP := Lib.hid hp
  clear h g hn hc hm gn gc gm hl hp hlt
  go_enter Try.func23, Try.ntmps23
  go_wp2_with fail
  refine c1.mono ?_
  rintro e w1 ⟨rfl, rfl⟩
  go_wp2_with fail
  refine c4.mono ?_
  rintro e w1 ⟨rfl, j0, rfl⟩
  go_wp2
  go_ret2
  exact ⟨rfl, below_drewN' HP.out j0⟩
theorem sub_any (A C : Option Addr) (n c m d : Nat) (l k : List Nat) (w : World) (hn : l.length = n) (hc : n ≤ c) (hm : n ≤ 35184372088832) (h : RW w w.heap.size A l)
    (gn : k.length = m) (gc : m ≤ d) (gm : m ≤ 35184372088832) (g : RW w w.heap.size C k) :
    Calls Try.prog 23 #[.slice A n c, .slice C m d] w (SubP (val l) (val k) w) := by
  cases hl : (lngB (val l) || lngB (val k))
  · by_cases hlt : val l < val k
    · exact (sub_less A C n c m d l k w hn hc hm h gn gc gm g hl hlt).mono (fun e w' x => by unfold SubP; rw [if_neg (by rw [hl]; simp), if_pos hlt]; exact x)
    · exact (sub_ok A C n c m d l k w hn hc hm h gn gc gm g hl (by omega)).mono (fun e w' x => by unfold SubP; rw [if_neg (by rw [hl]; simp), if_neg hlt]; exact x)
  · exact (sub_long A C n c m d l k w hn hc hm h gn gc gm g hl).mono (fun e w' x => by unfold SubP; rw [if_pos hl]; exact x)
end Go.Proofs.Ytclggnaljijjoaa
