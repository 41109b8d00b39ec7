/-
  Contract of Shl of the program. Contract of Shl of the program: its last way.
-/
import Derived.Test.YtlabblkonkhmgaaDoorShPow
namespace Go.Proofs.YtlabblkonkhmgaaDoor
open Go.RowKit
/-- What Shl tells. -/
def ShlQ (v : Nat) (n : Int) (w : World) (e : Ending) (w' : World) : Prop := if lngB v = true then ErrPost 3 w e w' else if n < 0 then ErrPost 1 w e w' else NatPost (v * 2 ^ n.toNat) w e w'
set_option maxHeartbeats 1000000 in
theorem pshl_long (A : Option Addr) (n c : Nat) (p : Int) (l : List Nat) (w : World) (hn : l.length = n) (hc : n ≤ c) (hm : n ≤ 35184372088832) (h : RW w w.heap.size A l) (hl : lngB (val l) = true) :
    Calls Tryd.prog 19 #[.slice A n c, .int .i64 p] w (ErrPost 3 w) := by
  have c1 := cut_any A n c l w.heap.size w hn hc hm h
  have hle := nrm_len l
  obtain ⟨N, hN⟩ : ∃ N, (nrm l).length = N := ⟨_, rfl⟩
  rw [hN] at c1 hle
  have c2 := tooOne_any A N N (nrm l) w hN (Nat.le_refl _) (by omega) h.nrm
  rw [val_nrm, hl] at c2
  have HP := Lib.hid (show Below w.heap.size w (lone w (.slice A N N)) from (Below.refl _ _).alloc (Nat.le_refl _) _)
  clear hn hc hm h hl hle hN
  go_enter Tryd.func19, Tryd.ntmps19
  go_wp2_with fail
  refine c1.mono ?_
  rintro e w1 ⟨rfl, rfl⟩
  go_wp2_with fail
  refine c2.mono ?_
  rintro e w1 ⟨rfl, rfl⟩
  go_wp2
  go_ret2
  exact ⟨rfl, HP.out⟩
set_option maxHeartbeats 1000000 in
theorem pshl_neg (A : Option Addr) (n c : Nat) (p : Int) (l : List Nat) (w : World) (hn : l.length = n) (hc : n ≤ c) (hm : n ≤ 35184372088832) (h : RW w w.heap.size A l) (hl : lngB (val l) = false) (hp : p < 0) :
    Calls Tryd.prog 19 #[.slice A n c, .int .i64 p] w (ErrPost 1 w) := by
  have c1 := cut_any A n c l w.heap.size w hn hc hm h
  have hle := nrm_len l
  obtain ⟨N, hN⟩ : ∃ N, (nrm l).length = N := ⟨_, rfl⟩
  rw [hN] at c1 hle
  have c2 := tooOne_any A N N (nrm l) w hN (Nat.le_refl _) (by omega) h.nrm
  rw [val_nrm, hl] at c2
  have HP := Lib.hid (show Below w.heap.size w (lone w (.slice A N N)) from (Below.refl _ _).alloc (Nat.le_refl _) _)
  clear hn hc hm h hl hle hN
  go_enter Tryd.func19, Tryd.ntmps19
  go_wp2_with fail
  refine c1.mono ?_
  rintro e w1 ⟨rfl, rfl⟩
  go_wp2_with fail
  refine c2.mono ?_
  rintro e w1 ⟨rfl, rfl⟩
  go_wp2
  go_ret2
  exact ⟨rfl, HP.out⟩
set_option maxHeartbeats 1000000 in
theorem pshl_zero (A : Option Addr) (n c : Nat) (p : Int) (l : List Nat) (w : World) (hn : l.length = n) (hc : n ≤ c) (hm : n ≤ 35184372088832) (h : RW w w.heap.size A l) (hp : 0 ≤ p) (h0 : nrm l = []) :
    Calls Tryd.prog 19 #[.slice A n c, .int .i64 p] w (NatPost 0 w) := by
  have c1 := cut_any A n c l w.heap.size w hn hc hm h
  rw [h0] at c1
  have c2 := tooOne_any A 0 0 [] w rfl (Nat.le_refl _) (by omega) (RW.nil _ _ _)
  rw [show lngB (val []) = false from lng_small (by simp [val])] at c2
  have HP := Lib.hid (show Below w.heap.size w (lone w (.slice A 0 0)) from (Below.refl _ _).alloc (Nat.le_refl _) _)
  have hp1 : ¬ p < 0 := by omega
  clear hn hc hm h h0
  go_enter Tryd.func19, Tryd.ntmps19
  go_wp2_with fail
  refine c1.mono ?_
  rintro e w1 ⟨rfl, rfl⟩
  go_wp2_with fail
  refine c2.mono ?_
  rintro e w1 ⟨rfl, rfl⟩
  go_wp2
  go_ret2
  exact NatPost.ok (lng_small (by omega)) rfl (Nat.le_refl _) (RW.nil _ _ _) HP.out
set_option maxHeartbeats 2000000 in
theorem pshl_far (A : Option Addr) (n c : Nat) (p : Int) (l : List Nat) (w : World) (hn : l.length = n) (hc : n ≤ c) (hm : n ≤ 35184372088832) (h : RW w w.heap.size A l) (hl : lngB (val l) = false) (hp : 0 ≤ p) (h0 : nrm l ≠ []) (hf : 32768 < (btl (nrm l) : Int) + p) :
    Calls Tryd.prog 19 #[.slice A n c, .int .i64 p] w (fun e w' => e = .returned (.tuple #[.slice none 0 0, .int .i64 3]) ∧ Below w.heap.size w w') := by
  have c1 := cut_any A n c l w.heap.size w hn hc hm h
  have n1 := lng_len h.1 hl
  have hpos : 0 < (nrm l).length := List.length_pos_iff.2 h0
  obtain ⟨N, hN⟩ : ∃ N, (nrm l).length = N := ⟨_, rfl⟩
  rw [hN] at c1 n1 hpos
  have c2 := tooOne_any A N N (nrm l) w hN (Nat.le_refl _) (by omega) h.nrm
  rw [val_nrm, hl] at c2
  have hp2 : Below w.heap.size w (lone w (.slice A N N)) := (Below.refl _ _).alloc (Nat.le_refl _) _
  have c3 := bits_any A N N (nrm l) w.heap.size _ hN (Nat.le_refl _) (by omega) (h.nrm.below hp2)
  have hb := btl_le h.1.nrm
  rw [nrm_nrm, hN] at hb
  obtain ⟨q, hq⟩ : ∃ q, btl (nrm l) = q := ⟨_, rfl⟩
  rw [hq] at c3 hf hb
  have HP := Lib.hid hp2
  have hp1 : ¬ p < 0 := by omega
  have hN0 : (0 : Int) < (N : Int) := by omega
  have hqq : (q : Int) ≤ 32768 := by omega
  have e1 : IntKind.i64.wrap (32768 - (q : Int)) = 32768 - (q : Int) := IntWalk.i64_in _ (by omega)
  have e2 : 32768 - (q : Int) < p := by omega
  clear hn hc hm h hl hN h0 hp2 hq hpos n1 hb hf
  go_enter Tryd.func19, Tryd.ntmps19
  go_wp2_with fail
  refine c1.mono ?_
  rintro e w1 ⟨rfl, rfl⟩
  go_wp2_with fail
  refine c2.mono ?_
  rintro e w1 ⟨rfl, rfl⟩
  go_wp2_with fail
  refine c3.mono ?_
  rintro e w1 ⟨rfl, rfl⟩
  go_wp2
  go_ret2
  exact ⟨rfl, HP.out⟩
end Go.Proofs.YtlabblkonkhmgaaDoor
namespace Go.Proofs.YtlabblkonkhmgaaDoor
open Go.RowKit
set_option maxRecDepth 100000 in
set_option maxHeartbeats 4000000 in
theorem pshl_ok (A : Option Addr) (n c : Nat) (p o s : Nat) (l : List Nat) (w : World) (hn : l.length = n) (hc : n ≤ c) (hm : n ≤ 35184372088832) (h : RW w w.heap.size A l) (hl : lngB (val l) = false) (h0 : nrm l ≠ []) (hf : btl (nrm l) + p ≤ 32768)
    (hpo : p = 32 * o + s) (hs : s < 32) :
    Calls Tryd.prog 19 #[.slice A n c, .int .i64 p] w (NatPost (val l * 2 ^ p) w) := by
  have c1 := cut_any A n c l w.heap.size w hn hc hm h
  have n1 := lng_len h.1 hl
  have hpos : 0 < (nrm l).length := List.length_pos_iff.2 h0
  obtain ⟨N, hN⟩ : ∃ N, (nrm l).length = N := ⟨_, rfl⟩
  rw [hN] at c1 n1 hpos
  have c2 := tooOne_any A N N (nrm l) w hN (Nat.le_refl _) (by omega) h.nrm
  rw [val_nrm, hl] at c2
  have hp2 : Below w.heap.size w (lone w (.slice A N N)) := (Below.refl _ _).alloc (Nat.le_refl _) _
  have c3 := bits_any A N N (nrm l) w.heap.size _ hN (Nat.le_refl _) (by omega) (h.nrm.below hp2)
  rw [← val_nrm l]
  have hA := h.nrm.below hp2
  obtain ⟨W, hW⟩ : ∃ W, lone w (.slice A N N) = W := ⟨_, rfl⟩
  rw [hW] at c2 c3 hp2 hA
  have hmk := run_make_row' (P := Tryd.prog) 22 42 (.int .u32 0) 4 Tryd.underlying22 infoW rfl .i64 .i64 (o + N + 1) (by omega) (by omega) W
  rw [show ((o + N + 1 : Nat) : Int) = (o : Int) + (N : Int) + 1 by omega] at hmk
  have hrow := Row.made W (o + N + 1)
  have hgW := hp2.size
  have hbl0 : Below w.heap.size w (W.alloc (.cells (madeCells #[.int .u32 0] (o + N + 1)) 42)) := hp2.alloc hp2.size _
  have hbl1 : Below w.heap.size W (W.alloc (.cells (madeCells #[.int .u32 0] (o + N + 1)) 42)) := (Below.refl _ _).alloc hp2.size _
  have C4 := Lib.hid (shl_any W.heap.size o (N + 1) (N + 1) s (List.replicate (o + (N + 1)) 0) A N N (nrm l) w.heap.size _ hrow (Ws.zeros _) (by rw [List.length_replicate]; exact Nat.le_refl _) hN (by omega) (by omega) (hA.below hbl1) hgW hs)
  have C5 := Lib.hid (fun (S : List Nat) (W2 : World) (hS : ShlP (List.replicate (o + (N + 1)) 0) o (nrm l) s (N + 1) S) (hr : Row W2 W.heap.size S) =>
    show Calls Tryd.prog 32 #[.slice (some ⟨W.heap.size, 0, none⟩) (o + N + 1) (o + N + 1)] W2 (NatPost (val (nrm l) * 2 ^ (32 * o + s)) W2) from by
      have hlen : S.length = o + N + 1 := by rw [hS.len, List.length_replicate]; omega
      have := answer_any (some ⟨W.heap.size, 0, none⟩) (o + N + 1) (o + N + 1) S W2 hlen (Nat.le_refl _) (by omega) ((hr.rw0 hS.ws).more hr.lt)
      rw [hS.all (by omega)] at this
      exact this)
  have HW := Lib.hid hW
  obtain ⟨q, hq⟩ : ∃ q, btl (nrm l) = q := ⟨_, rfl⟩
  rw [hq] at c3 hf
  obtain ⟨v, hv⟩ : ∃ v, val (nrm l) * 2 ^ p = v := ⟨_, rfl⟩
  rw [hv]
  rw [← hpo, hv] at C5
  have HBL := Lib.hid hbl0
  have hN0 : (0 : Int) < (N : Int) := by omega
  have hN1 : (N : Int) ≤ 1024 := by omega
  have ho1 : (o : Int) ≤ 1024 := by omega
  have e1 : IntKind.i64.wrap (32768 - (q : Int)) = 32768 - (q : Int) := IntWalk.i64_in _ (by omega)
  have e2 : (p : Int) ≤ 32768 - (q : Int) := by omega
  have e3 : (p : Int) / 32 = (o : Int) := by omega
  have e4 : (p : Int) % 32 = (s : Int) := by omega
  clear hn hc hm h hl hN h0 hp2 hq hpos n1 hf hpo hrow hbl0 hbl1 hs hW hA hv
  go_enter Tryd.func19, Tryd.ntmps19
  go_wp2_with fail
  refine c1.mono ?_
  rintro e w1 ⟨rfl, rfl⟩
  go_wp2_with fail
  rw [show w.alloc (.cells #[.slice A N N] 22) = W from HW.out]
  refine c2.mono ?_
  rintro e w1 ⟨rfl, rfl⟩
  go_wp2_with fail
  refine c3.mono ?_
  rintro e w1 ⟨rfl, rfl⟩
  clear c1 c2 c3
  go_wp2_with fail
  rw [show o + N + 1 - o = N + 1 by omega]
  refine C4.out.mono ?_
  rintro e w4 ⟨rfl, S, hS, hr, hb⟩
  have D5 := Lib.hid (C5.out S w4 hS hr)
  have HB4 := Lib.hid (HBL.out.trans (hb.mono hgW))
  clear hS hr hb C4 C5
  go_wp2_with fail
  refine D5.out.mono ?_
  rintro e w5 hx
  obtain ⟨A5, n5, c5, k5, rfl, h3, h4⟩ := NatPost.from_ HB4.out hx
  have H3 := Lib.hid h3
  have H4 := Lib.hid h4
  clear h3 h4 hx D5
  go_wp2
  go_ret2
  exact ⟨A5, n5, c5, k5, rfl, H3.out, H4.out⟩
end Go.Proofs.YtlabblkonkhmgaaDoor
