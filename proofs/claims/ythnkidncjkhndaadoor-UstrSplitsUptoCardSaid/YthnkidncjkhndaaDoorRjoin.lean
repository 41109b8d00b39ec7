/-
  Contracts of Join of the reference and of the law's comparison of texts.
-/
import Derived.Test.YthnkidncjkhndaaDoorRspl2
import Derived.StillTailTactics
namespace Go.Proofs.YthnkidncjkhndaaDoor
open Go.RowKit
set_option maxRecDepth 100000 in
set_option maxHeartbeats 1000000 in
theorem rjoin_none (A : Option Addr) (c : Nat) (t : ByteArray) (w : World) : Calls Tryd.prog 58 #[.slice A 0 c, .string t] w (JoinPost t [] w) := by
  have hcv := fun W => own_string (Own.nil w.heap.size W)
  go_enter Tryd.func58, Tryd.ntmps58
  go_wp2
  go_loopw [5, 6] (fun v i wr => i = .int .i64 0 ∧ v = .slice none 0 0 ∧ Below w.heap.size w wr) (fun _ _ _ => 0)
  case atStart => exact ⟨rfl, rfl, Below.refl _ _⟩
  case round =>
    obtain ⟨rfl, rfl, hbw⟩ := hrel
    go_wp2
    go_ret
    exact ⟨rfl, hbw⟩
theorem own_snoc {B : Nat} {l : List UInt8} {x : ByteArray} {v : Value} {w : World} (h : w.ownsRow B 5 1 v (l.length + (wh x).size) (Lib.byteCells l ++ Lib.strCells (wh x))) : Own B (l ++ bL (us x)) v w := by
  have e3 : Lib.strCells (wh x) = Lib.byteCells (bL (us x)) := by rw [Lib.strCells_eq, wh_data]
  have e4 : (bL (us x)).length = (wh x).size := by rw [wh_size, bL_length, us_length]
  rw [Own, List.length_append, Lib.byteCells_append, ← e3, e4]
  exact h
set_option maxRecDepth 100000 in
set_option maxHeartbeats 4000000 in
theorem rjoin_some (b off n c : Nat) (L : List ByteArray) (t : ByteArray) (w : World) (hn : L.length = n) (hm : n ≤ 1048576) (ht : t.size ≤ 1048576) (hL : ∀ x ∈ L, x.size ≤ 1048576)
    (hb : b < w.heap.size) (h : ∀ (k : Nat) (x : ByteArray), L[k]? = some x → w.cell? ⟨b, off + k, none⟩ = some (.string x)) :
    Calls Tryd.prog 58 #[.slice (some ⟨b, off, none⟩) n c, .string t] w (JoinPost t L w) := by
  obtain ⟨i0, hi, hz0, hz1, hz2⟩ := info_parts info5
  have HLE := Lib.hid (jnT_le t L ht hL (by omega))
  have HN := Lib.hid hn
  have HC := Lib.hid h
  have HL := Lib.hid hL
  have hm1 : (n : Int) ≤ 1048576 := by omega
  have htl := ln_le t
  have T63 := Lib.hid (show t.size ≤ maxLen by unfold maxLen; omega)
  have HWS := Lib.hid (show (wh t).size ≤ 1048576 by rw [wh_size]; omega)
  have c2 := fun W => rlen_any t W T63.out
  have k0 : 0 ≤ 2 * ((ln t : Nat) : Int) := by omega
  have k1 : 2 * ((ln t : Nat) : Int) ≤ (t.size : Int) := by omega
  have k2 : (t.size : Int) ≤ 1048576 := by omega
  have e1 : (2 * ((ln t : Nat) : Int)).toNat = 2 * ln t := by omega
  have e2 : t.extract 0 (2 * ln t) = wh t := rfl
  clear hn h hL hm ht htl
  go_enter Tryd.func58, Tryd.ntmps58
  go_wp2
  go_loopw [5, 6] (fun v i wr => ∃ k : Nat, i = .int .i64 k ∧ k ≤ n ∧ Hid (Own w.heap.size (bL (jnT t L k)) v wr) ∧ Below w.heap.size w wr) (fun _ i _ => n - (intOf i).toNat)
  case atStart => exact ⟨0, rfl, Nat.zero_le _, Lib.hid (Own.nil _ _), Below.refl _ _⟩
  case round =>
    obtain ⟨k, rfl, hk, HI, hbw⟩ := hrel
    by_cases hlt : k < n
    · have hlt2 : k < L.length := by rw [HN.out]; exact hlt
      obtain ⟨x, hx⟩ : ∃ x, L[k]? = some x := ⟨_, List.getElem?_eq_getElem hlt2⟩
      have hxs := HL.out x (List.mem_of_getElem? hx)
      have hxl := ln_le x
      have X63 := Lib.hid (show x.size ≤ maxLen by unfold maxLen; omega)
      have c1 := fun W => (rlen_any x W X63.out).mono fun _ _ (h : _ ∧ W = _) => And.intro h.1 h.2.symm
      have hle := HLE.out k
      have hk1 : (k : Int) < (n : Int) := by omega
      have HXS := Lib.hid (show (wh x).size ≤ 1048576 by rw [wh_size]; omega)
      have q0 : 0 ≤ 2 * ((ln x : Nat) : Int) := by omega
      have q1 : 2 * ((ln x : Nat) : Int) ≤ (x.size : Int) := by omega
      have q2 : (x.size : Int) ≤ 1048576 := by omega
      have qw : IntKind.i64.wrap (2 * ((ln x : Nat) : Int)) = 2 * ((ln x : Nat) : Int) := IntWalk.i64_in _ (by omega)
      have q3 : (2 * ((ln x : Nat) : Int)).toNat = 2 * ln x := by omega
      have q4 : x.extract 0 (2 * ln x) = wh x := rfl
      have hcell : ∀ W : World, Below w.heap.size w W → W.cell? ⟨b, off + k, none⟩ = some (.string x) := fun W hB => by
        rw [hB.cell (p := ⟨b, off + k, none⟩) hb]; exact HC.out k x hx
      have HCELL := Lib.hid hcell
      have hs := jnT_succ t L k x hx
      have HLN := Lib.hid (show (bL (jnT t L k)).length ≤ 2199023255552 by rw [bL_length]; omega)
      by_cases h0 : k = 0
      · rw [if_pos h0] at hs
        have HS := Lib.hid hs
        subst h0
        have hcell0 : wr.cell? ⟨b, off, none⟩ = some (.string x) := HCELL.out wr hbw
        clear hs hx hlt2 hxs hxl hle hcell
        go_wp2
        refine wp_region_still_tail 12 (by kernel_rfl) (by kernel_rfl) ?_
        simp only [List.take_succ_cons, List.take_zero, List.drop_succ_cons, List.drop_zero]
        repeat still_step
        still_call (c1 _)
        repeat still_step
        refine wpStill_nil ?_
        go_wp2_with (at_builtin; refine Lib.wpList_append_own_string _ rfl _ _ 52 9 rfl w.heap.size 5 i0 Tryd.underlying52 Tryd.underlying9 hi hz0 hz1 hz2 _ _ _ rfl HI.out (wh x) rfl ?c3 ?c4 ?c5 ?_)
        case c3 => have := HLN.out; have := HXS.out; have := HWS.out; unfold maxLen; (try simp only [List.length_append]); first | omega | (rw [show (bL (us t)).length = (wh t).size by rw [wh_size, bL_length, us_length]]; omega)
        case c4 => have := HLN.out; have := HXS.out; have := HWS.out; (try simp only [List.length_append]); first | omega | (rw [show (bL (us t)).length = (wh t).size by rw [wh_size, bL_length, us_length]]; omega)
        case c5 => exact hbw.size
        intro v' w3 hown3 hg3 _
        have HO3 := Lib.hid (own_snoc hown3)
        have hb3 : Below w.heap.size w w3 := (below_drewN' hbw 1).grown hg3 hbw.size (fun j hj => (World.ownsRow.lt HI.out j hj).1)
        clear hown3 hg3
        go_wp2
        go_roundw
        case rel => exact ⟨1, by go_num, by omega, Lib.hid (by have := HO3.out; rw [jnT_zero] at this; rw [HS.out]; exact this), hb3⟩
        case measure => simp [intOf]; omega
      · rw [if_neg h0] at hs
        have HS := Lib.hid hs
        have h1 : (0 : Int) < (k : Int) := by omega
        clear hs hx hlt2 hxs hxl hle hcell
        go_wp2_with fail
        refine (c2 _).mono ?_
        rintro e w' ⟨rfl, rfl⟩
        go_wp2_with (at_builtin; refine Lib.wpList_append_own_string _ rfl _ _ 52 9 rfl w.heap.size 5 i0 Tryd.underlying52 Tryd.underlying9 hi hz0 hz1 hz2 _ _ _ rfl HI.out (wh t) rfl ?c3 ?c4 ?c5 ?_)
        case c3 => have := HLN.out; have := HWS.out; unfold maxLen; omega
        case c4 => have := HLN.out; have := HWS.out; omega
        case c5 => exact hbw.size
        intro v2 w2 hown hg _
        have HO := Lib.hid (own_snoc hown)
        have hb2 : Below w.heap.size w w2 := hbw.grown hg hbw.size (fun j hj => (World.ownsRow.lt HI.out j hj).1)
        have hcell2 : w2.cell? ⟨b, off + k, none⟩ = some (.string x) := HCELL.out w2 hb2
        clear hown hg
        go_wp2
        refine wp_region_still_tail 12 (by kernel_rfl) (by kernel_rfl) ?_
        simp only [List.take_succ_cons, List.take_zero, List.drop_succ_cons, List.drop_zero]
        repeat still_step
        still_call (c1 _)
        repeat still_step
        refine wpStill_nil ?_
        go_wp2_with (at_builtin; refine Lib.wpList_append_own_string _ rfl _ _ 52 9 rfl w.heap.size 5 i0 Tryd.underlying52 Tryd.underlying9 hi hz0 hz1 hz2 _ _ _ rfl HO.out (wh x) rfl ?c3 ?c4 ?c5 ?_)
        case c3 => have := HLN.out; have := HXS.out; have := HWS.out; unfold maxLen; (try simp only [List.length_append]); first | omega | (rw [show (bL (us t)).length = (wh t).size by rw [wh_size, bL_length, us_length]]; omega)
        case c4 => have := HLN.out; have := HXS.out; have := HWS.out; (try simp only [List.length_append]); first | omega | (rw [show (bL (us t)).length = (wh t).size by rw [wh_size, bL_length, us_length]]; omega)
        case c5 => exact hb2.size
        intro v' w3 hown3 hg3 _
        rw [← List.length_append] at hown3
        have HO3 := Lib.hid (own_snoc hown3)
        have hb3 : Below w.heap.size w w3 := (below_drewN' hb2 1).grown hg3 hb2.size (fun j hj => (World.ownsRow.lt HO.out j hj).1)
        clear hown3 hg3
        go_wp2
        go_roundw
        case rel => exact ⟨k + 1, by go_num, by omega, Lib.hid (by rw [HS.out, bL_append, bL_append, ← List.append_assoc]; exact HO3.out), hb3⟩
        case measure => simp [intOf]; omega
    · have HZ := Lib.hid (show jnT t L k = jn (us t) (L.map us) by rw [show k = L.length by rw [HN.out]; omega]; exact jnT_all t L)
      have hcv := own_string HI.out
      go_wp2
      go_ret
      rw [HZ.out]
      exact ⟨rfl, hbw⟩
theorem rjoin_any (A : Option Addr) (n c : Nat) (L : List ByteArray) (t : ByteArray) (w : World) (hn : L.length = n) (hm : n ≤ 1048576) (ht : t.size ≤ 1048576) (hL : ∀ x ∈ L, x.size ≤ 1048576)
    (h : RS w w.heap.size A L) : Calls Tryd.prog 58 #[.slice A n c, .string t] w (JoinPost t L w) := by
  rcases Nat.eq_zero_or_pos n with h0 | h0
  · subst h0
    obtain rfl : L = [] := List.eq_nil_of_length_eq_zero hn
    exact rjoin_none A c t w
  · obtain ⟨b, off, rfl, hb, hc⟩ := h (by omega)
    exact rjoin_some b off n c L t w hn hm ht hL hb hc
set_option maxRecDepth 100000 in
set_option maxHeartbeats 1000000 in
theorem texts_any (A C : Option Addr) (n c d : Nat) (L : List ByteArray) (B D : Nat) (w : World) (hn : L.length = n) (hm : n ≤ 1048576) (hA : RS w B A L) (hC : RS w D C L) :
    Calls Tryd.prog 54 #[.slice A n c, .slice C n d] w fun e w' => e = .returned (.bool true) ∧ ∃ k, w' = w.drewN k := by
  rcases Nat.eq_zero_or_pos n with h0 | h0
  · subst h0
    clear hn hm hA hC
    go_enter Tryd.func54, Tryd.ntmps54
    go_wp2
    go_loopw [5] (fun i wr => i = .int .i64 0 ∧ ∃ n, wr = w.drewN n) (fun _ _ => 0)
    case atStart => exact ⟨rfl, 0, rfl⟩
    case round =>
      obtain ⟨rfl, n, rfl⟩ := hrel
      go_wp2
      go_ret
      exact ⟨rfl, n, rfl⟩
  · obtain ⟨a, o, rfl, _, ha⟩ := hA (by omega)
    obtain ⟨b, p, rfl, _, hb⟩ := hC (by omega)
    have HN := Lib.hid hn
    have HA := Lib.hid ha
    have HB := Lib.hid hb
    have h2 : (n : Int) ≤ 1048576 := by omega
    clear hn hm hA hC ha hb
    go_enter Tryd.func54, Tryd.ntmps54
    go_wp2
    go_loopw [5] (fun i wr => ∃ k : Nat, i = .int .i64 k ∧ k ≤ n ∧ ∃ j, wr = w.drewN j) (fun i _ => n - (intOf i).toNat)
    case atStart => exact ⟨0, rfl, Nat.zero_le _, 0, rfl⟩
    case round =>
      obtain ⟨k, rfl, hk, j, rfl⟩ := hrel
      by_cases hlt : k < n
      · have hlt2 : k < L.length := by rw [HN.out]; exact hlt
        obtain ⟨x, hx⟩ : ∃ x, L[k]? = some x := ⟨_, List.getElem?_eq_getElem hlt2⟩
        have d1 := HA.out k x hx
        have d2 := HB.out k x hx
        have b1 : (0 : Int) ≤ (k : Int) := by omega
        have b2 : (k : Int) < (n : Int) := by omega
        clear hx hlt2
        go_wp2
        go_quiet (fail)
        go_wp2
        go_roundw
        case rel => exact ⟨k + 1, by go_num, by omega, _, rfl⟩
        case measure => simp [intOf]; omega
      · go_wp2
        go_ret
        exact ⟨rfl, j, rfl⟩
end Go.Proofs.YthnkidncjkhndaaDoor
