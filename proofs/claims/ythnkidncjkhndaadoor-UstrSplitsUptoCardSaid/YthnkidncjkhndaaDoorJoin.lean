/-
  Contract of Join of the program (at most 2^20 texts of at most 2^20 bytes).
-/
import Derived.Test.YthnkidncjkhndaaDoorSpl
import Derived.Test.YthnkidncjkhndaaDoorWhole
namespace Go.Proofs.YthnkidncjkhndaaDoor
open Go.RowKit
/-- The cells from A on read as the texts L. -/
def RS (w : World) (B : Nat) (A : Option Addr) (L : List ByteArray) : Prop :=
  0 < L.length → ∃ b off, A = some ⟨b, off, none⟩ ∧ b < B ∧ ∀ (k : Nat) (x : ByteArray), L[k]? = some x → w.cell? ⟨b, off + k, none⟩ = some (.string x)
theorem RS.below {w w' : World} {B : Nat} {A : Option Addr} {L : List ByteArray} (h : RS w B A L) (hb : Below B w w') : RS w' B A L := fun hl => by
  obtain ⟨b, off, e, hB, hc⟩ := h hl
  exact ⟨b, off, e, hB, fun k x hx => (hb.cell (p := ⟨b, off + k, none⟩) hB).trans (hc k x hx)⟩
theorem RS.more {w : World} {B C : Nat} {A : Option Addr} {L : List ByteArray} (h : RS w B A L) (hB : B ≤ C) : RS w C A L := fun hl => by
  obtain ⟨b, off, e, hb, hc⟩ := h hl
  exact ⟨b, off, e, by omega, hc⟩
theorem OwnS.reads {B : Nat} {L : List ByteArray} {v : Value} {w : World} (h : OwnS B L v w) : ∃ A c, v = .slice A L.length c ∧ RS w w.heap.size A L := by
  rcases h.2 with ⟨rfl, h0⟩ | ⟨g, cap, cur, rfl, hB, hg, hcap, hmax, hcur, htk⟩
  · refine ⟨none, 0, by rw [h0], fun hl => by omega⟩
  · refine ⟨_, cap, rfl, fun hl => ⟨g, 0, rfl, (World.ownsRow.lt h g rfl).2, fun k x hx => ?_⟩⟩
    have := h.cells (g := g) rfl k (.string x) (by rw [List.getElem?_map, hx]; rfl)
    by_cases hz : k = 0
    · subst hz; simpa [Addr.add] using this
    · simpa [Addr.add, hz] using this
theorem jn_le (t : List Nat) (M : Nat) (ht : t.length ≤ M) : ∀ L : List (List Nat), (∀ x ∈ L, x.length ≤ M) → (jn t L).length ≤ L.length * (2 * M)
  | [], _ => by simp [jn]
  | x :: r, h => by
    have h2 : ∀ r : List (List Nat), (∀ x ∈ r, x.length ≤ M) → (r.flatMap fun y => t ++ y).length ≤ r.length * (2 * M) := by
      intro r hr
      induction r with
      | nil => simp
      | cons y r ih =>
        have h1 := ih (fun x hx => hr x (by simp [hx]))
        have h3 := hr y (by simp)
        simp only [List.flatMap_cons, List.length_append, List.length_cons, Nat.add_mul, Nat.one_mul]
        omega
    have h1 := h2 r (fun x hx => h x (by simp [hx]))
    have h3 := h x (by simp)
    simp only [jn, List.length_append, List.length_cons, Nat.add_mul, Nat.one_mul]
    omega
/-- The first k texts joined. -/
def jnT (t : ByteArray) (L : List ByteArray) (k : Nat) : List Nat := jn (us t) ((L.take k).map us)
theorem jnT_zero (t : ByteArray) (L : List ByteArray) : jnT t L 0 = [] := rfl
theorem jnT_succ (t : ByteArray) (L : List ByteArray) (k : Nat) (x : ByteArray) (h : L[k]? = some x) : jnT t L (k + 1) = if k = 0 then us x else jnT t L k ++ (us t ++ us x) := by
  have hk : k < L.length := by
    rcases Nat.lt_or_ge k L.length with h1 | h1
    · exact h1
    · rw [List.getElem?_eq_none h1] at h; cases h
  have hx : L[k] = x := by rw [List.getElem?_eq_getElem hk] at h; exact Option.some.inj h
  unfold jnT
  rw [List.take_succ_eq_append_getElem hk, List.map_append, List.map_cons, List.map_nil, jn_snoc, hx]
  by_cases h0 : k = 0
  · subst h0; simp
  · rw [if_neg h0, if_neg]
    intro e
    have := congrArg List.length e
    rw [List.length_map, List.length_take, List.length_nil] at this
    omega
theorem jnT_all (t : ByteArray) (L : List ByteArray) : jnT t L L.length = jn (us t) (L.map us) := by
  unfold jnT
  rw [List.take_of_length_le (Nat.le_refl _)]
theorem jnT_le (t : ByteArray) (L : List ByteArray) (ht : t.size ≤ 1048576) (hL : ∀ x ∈ L, x.size ≤ 1048576) (hn : L.length ≤ 1048576) (k : Nat) : (jnT t L k).length ≤ 1099511627776 := by
  have h1 := jn_le (us t) 524288 (by rw [us_length]; unfold ln; omega) ((L.take k).map us) (by
    intro x hx
    simp only [List.mem_map] at hx
    obtain ⟨y, hy, rfl⟩ := hx
    have := hL y (List.mem_of_mem_take hy)
    rw [us_length]; unfold ln; omega)
  have h2 : ((L.take k).map us).length ≤ 1048576 := by rw [List.length_map, List.length_take]; omega
  have h3 : ((L.take k).map us).length * (2 * 524288) ≤ 1048576 * (2 * 524288) := Nat.mul_le_mul_right _ h2
  unfold jnT
  omega
theorem wString_any (B : Nat) (l : List UInt8) (x : ByteArray) (w : World) (h : Bld B l w) (hlen : l.length + (wh x).size ≤ 140737488355328) (hBw : B ≤ w.heap.size) :
    Calls Tryd.prog 86 #[.pointer (some ⟨B, 0, none⟩), .string (wh x)] w fun e w' => e = .returned (.tuple #[.int .i64 (wh x).size, .nilIface]) ∧ Bld B (l ++ bL (us x)) w' ∧ Below B w w' := by
  refine (Tryd.Builder_WriteString_k B B _ (wh x) _ h (by rw [Lib.byteCells_length]; exact hlen) hBw).mono ?_
  rintro e w' ⟨rfl, hb, bl, _⟩
  refine ⟨rfl, ?_, bl⟩
  rw [Bld, Lib.byteCells_append, show Lib.byteCells (bL (us x)) = Lib.strCells (wh x) by rw [Lib.strCells_eq, wh_data]]
  exact .inr hb
theorem bld_zero (w : World) : Bld w.heap.size [] (w.alloc (.cells #[.pointer none, .slice none 0 0] 54)) := Lib.IsBuilderF.of (Lib.fresh_isBuilder 54 5 w)
def JoinPost (t : ByteArray) (L : List ByteArray) (w : World) (e : Ending) (w' : World) : Prop := e = .returned (.string (tx (jn (us t) (L.map us)))) ∧ Below w.heap.size w w'
set_option maxRecDepth 100000 in
set_option maxHeartbeats 1000000 in
theorem join_none (A : Option Addr) (c : Nat) (t : ByteArray) (w : World) : Calls Tryd.prog 57 #[.slice A 0 c, .string t] w (JoinPost t [] w) := by
  have hz := Lib.hid (bld_zero w)
  go_enter Tryd.func57, Tryd.ntmps57
  go_wp2
  go_loopw [10] (fun i wr => i = .int .i64 0 ∧ Bld w.heap.size [] wr ∧ Below w.heap.size w wr) (fun _ _ => 0)
  case atStart => exact ⟨rfl, hz.out, (Below.refl _ _).alloc (Nat.le_refl _) _⟩
  case round =>
    obtain ⟨rfl, hI, hbw⟩ := hrel
    have hS := Tryd.Builder_String_any_k w.heap.size w.heap.size [] wr hI hbw.size
    go_wp2_with (go_at_call 62; refine hS.mono ?_; rintro e w2 ⟨rfl, _, hb2, _⟩)
    go_ret
    exact ⟨rfl, hbw.trans hb2⟩
set_option maxRecDepth 100000 in
set_option maxHeartbeats 2000000 in
theorem join_some (b off n c : Nat) (L : List ByteArray) (t : ByteArray) (w : World) (hn : L.length = n) (hm : n ≤ 1048576) (ht : t.size ≤ 1048576) (hL : ∀ x ∈ L, x.size ≤ 1048576)
    (hb : b < w.heap.size) (h : ∀ (k : Nat) (x : ByteArray), L[k]? = some x → w.cell? ⟨b, off + k, none⟩ = some (.string x)) :
    Calls Tryd.prog 57 #[.slice (some ⟨b, off, none⟩) n c, .string t] w (JoinPost t L w) := by
  have hz := Lib.hid (bld_zero w)
  have HLE := Lib.hid (jnT_le t L ht hL (by omega))
  have HN := Lib.hid hn
  have HC := Lib.hid h
  have HL := Lib.hid hL
  have hm1 : (n : Int) ≤ 1048576 := by omega
  have T63 := Lib.hid (show t.size ≤ maxLen by unfold maxLen; omega)
  have hws : (wh t).size ≤ 1048576 := by rw [wh_size]; have := ln_le t; omega
  have HWS := Lib.hid hws
  clear hn h hL hm ht hws
  go_enter Tryd.func57, Tryd.ntmps57
  go_wp2
  go_loopw [10] (fun i wr => ∃ k : Nat, i = .int .i64 k ∧ k ≤ n ∧ Hid (Bld w.heap.size (bL (jnT t L k)) wr) ∧ Below w.heap.size w wr) (fun i _ => n - (intOf i).toNat)
  case atStart => exact ⟨0, rfl, Nat.zero_le _, hz, (Below.refl _ _).alloc (Nat.le_refl _) _⟩
  case round =>
    obtain ⟨k, rfl, hk, HI, hbw⟩ := hrel
    have hsz := bld_lt HI.out
    by_cases hlt : k < n
    · have hlt2 : k < L.length := by rw [HN.out]; exact hlt
      obtain ⟨x, hx⟩ : ∃ x, L[k]? = some x := ⟨_, List.getElem?_eq_getElem hlt2⟩
      have hcell : wr.cell? ⟨b, off + k, none⟩ = some (.string x) := by
        rw [hbw.cell (p := ⟨b, off + k, none⟩) hb]; exact HC.out k x hx
      have hxs := HL.out x (List.mem_of_getElem? hx)
      have c1 := fun W => whole_any x W (by unfold maxLen; omega)
      have c2 := fun W => whole_any t W T63.out
      have hxw : (wh x).size ≤ 1048576 := by rw [wh_size]; have := ln_le x; omega
      have hle := HLE.out k
      have hk1 : (k : Int) < (n : Int) := by omega
      by_cases h0 : k = 0
      · have hs := jnT_succ t L k x hx
        rw [if_pos h0] at hs
        have HS := Lib.hid hs
        have C3 := Lib.hid (fun W h hB => wString_any w.heap.size (bL (jnT t L k)) x W h (by rw [bL_length]; omega) hB)
        subst h0
        have hcell0 : wr.cell? ⟨b, off, none⟩ = some (.string x) := hcell
        clear hs hx hlt2 hxs hxw hle hcell
        go_wp2_with (first | (go_at_call 80; refine (c1 _).mono ?_; rintro e w' ⟨rfl, rfl⟩) | (go_at_call 86; refine (C3.out _ HI.out hbw.size).mono ?_; rintro e w2 ⟨rfl, hI2, hb2⟩))
        go_roundw
        case rel => exact ⟨1, by go_num, by omega, Lib.hid (by rw [HS.out]; rw [jnT_zero] at hI2; exact hI2), hbw.trans hb2⟩
        case measure => simp [intOf]; omega
      · have hs := jnT_succ t L k x hx
        rw [if_neg h0] at hs
        have HS := Lib.hid hs
        have h1 : (0 : Int) < (k : Int) := by omega
        have C3 := Lib.hid (fun W h hB => wString_any w.heap.size (bL (jnT t L k)) t W h (by rw [bL_length]; have := HWS.out; omega) hB)
        have C4 := Lib.hid (fun W h hB => wString_any w.heap.size (bL (jnT t L k) ++ bL (us t)) x W h (by rw [List.length_append, bL_length, bL_length, us_length]; have := HWS.out; rw [wh_size] at this; omega) hB)
        clear hs hx hlt2 hxs hxw hle
        go_wp2_with fail
        refine (c2 _).mono ?_
        rintro e w' ⟨rfl, rfl⟩
        go_wp2_with fail
        refine (C3.out _ HI.out hbw.size).mono ?_
        rintro e w2 ⟨rfl, hI2, hb2⟩
        have hcell2 : w2.cell? ⟨b, off + k, none⟩ = some (.string x) := by
          rw [hb2.cell (p := ⟨b, off + k, none⟩) hb]; exact hcell
        have HI2 := Lib.hid hI2
        have hbw2 := hbw.trans hb2
        clear hI2
        go_wp2_with fail
        refine (c1 _).mono ?_
        rintro e w' ⟨rfl, rfl⟩
        go_wp2_with fail
        refine (C4.out _ HI2.out hbw2.size).mono ?_
        rintro e w3 ⟨rfl, hI3, hb3⟩
        have HI3 := Lib.hid hI3
        clear hI3
        go_wp2
        go_roundw
        case rel => exact ⟨k + 1, by go_num, by omega, Lib.hid (by rw [HS.out, bL_append, bL_append, ← List.append_assoc]; exact HI3.out), hbw2.trans hb3⟩
        case measure => simp [intOf]; omega
    · have hS := Tryd.Builder_String_any_k w.heap.size w.heap.size _ wr HI.out hbw.size
      have HZ := Lib.hid (show jnT t L k = jn (us t) (L.map us) by rw [show k = L.length by rw [HN.out]; omega]; exact jnT_all t L)
      go_wp2_with (go_at_call 62; refine hS.mono ?_; rintro e w2 ⟨rfl, _, hb2, _⟩)
      go_ret
      refine ⟨by rw [HZ.out]; rfl, hbw.trans hb2⟩
theorem join_any (A : Option Addr) (n c : Nat) (L : List ByteArray) (t : ByteArray) (w : World) (hn : L.length = n) (hm : n ≤ 1048576) (ht : t.size ≤ 1048576) (hL : ∀ x ∈ L, x.size ≤ 1048576)
    (h : RS w w.heap.size A L) : Calls Tryd.prog 57 #[.slice A n c, .string t] w (JoinPost t L w) := by
  rcases Nat.eq_zero_or_pos n with h0 | h0
  · subst h0
    obtain rfl : L = [] := List.eq_nil_of_length_eq_zero hn
    exact join_none A c t w
  · obtain ⟨b, off, rfl, hb, hc⟩ := h (by omega)
    exact join_some b off n c L t w hn hm ht hL hb hc
end Go.Proofs.YthnkidncjkhndaaDoor
