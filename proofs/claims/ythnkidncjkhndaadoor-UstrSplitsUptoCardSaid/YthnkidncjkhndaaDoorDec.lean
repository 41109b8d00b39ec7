/-
  Contracts of the program's writePoint and Decode: a code point's units written, and the text of any bytes as UTF-8 (of at most 2^45 bytes; the two tables of unicode/utf8 hold what their initialisers lay).
-/
import Derived.Test.YthnkidncjkhndaaDoorPut
import Derived.Test.YthnkidncjkhndaaDoorUtf
import Derived.Laws.DeepBits32
namespace Go.Proofs.YthnkidncjkhndaaDoor
open Go.RowKit
theorem i32_and_nat (a b : Nat) (ha : a < 2147483648) (hb : b < 2147483648) : bits .and .i32 (a : Int) (b : Int) = ((a &&& b : Nat) : Int) := by
  have hx : a &&& b < 2 ^ 31 := Nat.and_lt_two_pow _ (by omega)
  show IntKind.i32.wrap ((BitVec.ofInt 32 (a : Int) &&& BitVec.ofInt 32 (b : Int)).toNat : Int) = _
  rw [BitVec.toNat_and, ofInt_u32 a (by omega), ofInt_u32 b (by omega)]
  exact wrap_i32_small _ (by omega) (by omega)
theorem and_i32_1023 (r : Nat) (hr : r < 2147483648) : bits BinOp.and IntKind.i32 (r : Int) 1023 = ((r % 1024 : Nat) : Int) := by
  have := i32_and_nat r 1023 hr (by omega)
  rw [show (1023 : Int) = ((1023 : Nat) : Int) from rfl, this]
  rw [show (1023 : Nat) = 2 ^ 10 - 1 from rfl, Nat.and_two_pow_sub_one_eq_mod r 10]
theorem or_high (b : Nat) (hb : b < 1024) : bits BinOp.or IntKind.u16 55296 (b : Int) = ((55296 + b : Nat) : Int) := by
  rw [show (55296 : Int) = ((55296 : Nat) : Int) from rfl, u16_or_nat _ _ (by omega) (by omega)]
  have := Nat.two_pow_add_eq_or_of_lt (i := 10) (b := b) (by omega) 54
  rw [show (55296 : Nat) = 2 ^ 10 * 54 from rfl, this]
theorem or_low (b : Nat) (hb : b < 1024) : bits BinOp.or IntKind.u16 56320 (b : Int) = ((56320 + b : Nat) : Int) := by
  rw [show (56320 : Int) = ((56320 : Nat) : Int) from rfl, u16_or_nat _ _ (by omega) (by omega)]
  have := Nat.two_pow_add_eq_or_of_lt (i := 10) (b := b) (by omega) 55
  rw [show (56320 : Nat) = 2 ^ 10 * 55 from rfl, this]
set_option maxRecDepth 100000 in
set_option maxHeartbeats 400000 in
theorem writePoint_any (B : Nat) (l : List UInt8) (p : Nat) (hp : p ≤ 1114111) (w : World) (h : Bld B l w) (hlen : l.length + 4 ≤ 140737488355328) (hBw : B ≤ w.heap.size) :
    Calls Tryd.prog 61 #[.pointer (some ⟨B, 0, none⟩), .int .i32 p] w fun e w' => e = .returned (.tuple #[]) ∧ Bld B (l ++ bL (pu p)) w' ∧ Below B w w' := by
  by_cases hs : p < 65536
  · have hpu : pu p = [p] := by unfold pu; rw [if_pos hs]
    rw [hpu]
    clear hpu
    have hP : 0 ≤ (p : Int) := by omega
    have hQ : (p : Int) < 65536 := by omega
    have H1 := Lib.hid hp
    have H2 := Lib.hid hs
    clear hp hs
    go_enter Tryd.func61, Tryd.ntmps61
    go_wp2_with fail
    refine (writeUnit_any B l p H2.out _ h (by omega) hBw).mono ?_
    rintro e w1 ⟨rfl, hb1, bl1⟩
    go_wp2
    exact bodyPost_ret (v := .tuple #[]) (by simp [results, Tryd.results61, go_sem]) rfl ⟨rfl, hb1, bl1⟩
  · have hpu : pu p = [55296 + (p - 65536) / 1024, 56320 + (p - 65536) % 1024] := by unfold pu; rw [if_neg hs]
    obtain ⟨q, rfl⟩ : ∃ q, p = q + 65536 := ⟨p - 65536, by omega⟩
    rw [hpu, show q + 65536 - 65536 = q by omega]
    clear hpu
    have h1 : bits BinOp.or IntKind.u16 55296 ((q : Int) / 1024) = ((55296 + q / 1024 : Nat) : Int) := or_high (q / 1024) (by omega)
    have h2 : bits BinOp.or IntKind.u16 56320 ((q : Int) % 1024) = ((56320 + q % 1024 : Nat) : Int) := or_low (q % 1024) (by omega)
    have h3 : bits BinOp.and IntKind.i32 (q : Int) 1023 = (q : Int) % 1024 := and_i32_1023 q (by omega)
    have k1 := Lib.hid h1
    have k2 := Lib.hid h2
    clear h1 h2
    have hP : 0 ≤ (q : Int) := by omega
    have hQ : (q : Int) ≤ 1048575 := by omega
    have hT : ¬ ((q : Int) + 65536 < 65536) := by omega
    have H1 := Lib.hid hp
    have H2 := Lib.hid hs
    clear hp hs
    go_enter Tryd.func61, Tryd.ntmps61
    go_wp2_with fail
    rw [k1.out]
    refine (writeUnit_any B l _ (by have := H1.out; omega) _ h (by omega) hBw).mono ?_
    rintro e w1 ⟨rfl, hb1, bl1⟩
    have hBw1 := Nat.le_trans hBw bl1.size
    go_wp2_with fail
    rw [k2.out]
    refine (writeUnit_any B _ _ (by omega) _ hb1 (by rw [List.length_append, bL_length]; simp; omega) hBw1).mono ?_
    rintro e w2 ⟨rfl, hb2, bl2⟩
    go_wp2
    go_end0
    refine ⟨rfl, ?_, bl1.trans bl2⟩
    rw [List.append_assoc, ← bL_append] at hb2
    exact hb2
theorem alloc_new (w : World) (o : Obj) : (w.alloc o).heap[w.heap.size]? = some o := by
  show (w.heap.push o)[w.heap.size]? = _
  rw [Array.getElem?_push, if_pos rfl]
/-- A builder stands behind a call that only lays new blocks. -/
theorem bld_below {B : Nat} {l : List UInt8} {w w' : World} (h : Bld B l w) (hb : Below w.heap.size w w') : Bld B l w' := by
  have hg : w.grownBy w' none := ⟨hb.os, hb.tape, hb.output, hb.size, fun k hk _ => hb.block k hk⟩
  have key : ∀ p, Lib.BuilderAtF 54 5 B B p (Lib.byteCells l) w → Lib.BuilderAtF 54 5 B B p (Lib.byteCells l) w' := by
    intro p hA
    have hlt := Lib.BuilderAtF.lt hA
    obtain ⟨hB, v, hbk, hown, hne⟩ := hA
    exact ⟨hB, v, by rw [hb.block B hlt]; exact hbk, hown.kept hg (by cases v.ownBlock <;> simp), hne⟩
  rcases h with h | h
  · exact .inl (key _ h)
  · exact .inr (key _ h)
theorem bld_lt {B : Nat} {l : List UInt8} {w : World} (h : Bld B l w) : B < w.heap.size := by
  rcases h with h | h <;> exact Lib.BuilderAtF.lt h
/-- The tables stand below the call's own blocks. -/
theorem tabs_below {B : Nat} {w w' : World} (hT : Lib.Utf8Tabs 0 1 w) (hB : 2 ≤ B) (hb : Below B w w') : Lib.Utf8Tabs 0 1 w' := by
  refine ⟨fun c hc => ?_, fun i hi => ?_⟩
  · rw [hb.cell (p := ⟨0, c, none⟩) (by show 0 < B; omega)]; exact hT.1 c hc
  · rw [hb.cell (p := ⟨1, 2 * i, none⟩) (by show 1 < B; omega), hb.cell (p := ⟨1, 2 * i + 1, none⟩) (by show 1 < B; omega)]; exact hT.2 i hi
theorem tabs_two {w : World} (hT : Lib.Utf8Tabs 0 1 w) : 2 ≤ w.heap.size := by
  have h := (hT.2 0 (by omega)).1
  rcases Nat.lt_or_ge 1 w.heap.size with h' | h'
  · omega
  · simp [World.cell?, Array.getElem?_eq_none h'] at h
theorem rune_any (s : ByteArray) (i : Nat) (hi : i < s.size) (w : World) (hT : Lib.Utf8Tabs 0 1 w) (p n : Nat) (h : (if (ptS s i).2 = 0 then (65533, 1) else ptS s i) = (p, n)) :
    Calls Tryd.prog 60 #[.string (s.extract i s.size)] w fun e w' => e = .returned (.tuple #[.int .i32 p, .int .i64 n]) ∧ Below w.heap.size w w' := by
  refine (Tryd.utf8_DecodeRuneInString _ w hT).mono ?_
  rintro e w' ⟨rfl, hb⟩
  rw [decodeGo_ptS s i hi, h]
  exact ⟨rfl, hb⟩
set_option maxRecDepth 100000 in
set_option maxHeartbeats 1000000 in
theorem decode_any (s : ByteArray) (w : World) (hs : s.size ≤ 35184372088832) (hT : Lib.Utf8Tabs 0 1 w) :
    Calls Tryd.prog 14 #[.string s] w fun e w' => e = .returned (.tuple #[.string ⟨(decT (decS s)).toArray⟩, .int .i64 (decI (decS s)), .int .i64 (decE (decS s))]) ∧ Below w.heap.size w w' := by
  have hm : (s.size : Int) ≤ 35184372088832 := by omega
  have hT2 := tabs_two hT
  have HT := Lib.hid hT
  have HS := Lib.hid hs
  clear hT hs
  have hg : Calls Tryd.prog 59 #[.pointer (some ⟨w.heap.size, 0, none⟩), .int .i64 (2 * (s.size : Int))] (w.alloc (.cells #[.pointer none, .slice none 0 0] 54)) fun e w' => e = .returned (.tuple #[]) ∧ (Lib.BuilderAt 54 5 w.heap.size w.heap.size (.pointer (some ⟨w.heap.size, 0, none⟩)) [] w' ∧ Below w.heap.size (w.alloc (.cells #[.pointer none, .slice none 0 0] 54)) w') :=
    Tryd.Builder_Grow_fresh w.heap.size w.heap.size (2 * s.size) _ (Nat.le_refl _) (alloc_new w _) (by simp) (by have := HS.out; omega)
  go_enter Tryd.func14, Tryd.ntmps14
  go_wp2_with fail
  refine hg.mono ?_
  rintro e w1 ⟨rfl, hb1, bl1⟩
  have hW1 : w.heap.size + 1 ≤ w1.heap.size := by have := bl1.size; simp at this; omega
  have hbl : Below w.heap.size w w1 := ((Below.refl w.heap.size w).alloc (Nat.le_refl _) _).trans bl1
  clear hg
  go_wp2
  go_loopw [6] (fun i wr => ∃ (pos fuel : Nat) (acc : List Nat), i = .int .i64 pos ∧ pos ≤ s.size ∧ Bld w.heap.size (bL acc) wr ∧ Below w.heap.size w wr ∧ glue acc (decF s fuel pos) = decS s ∧ s.size ≤ pos + fuel ∧ acc.length ≤ pos) (fun i _ => s.size - (intOf i).toNat)
  case atStart => exact ⟨0, s.size, [], rfl, Nat.zero_le _, Lib.IsBuilderF.of (.inr hb1), hbl, glue_nil _, by omega, by simp⟩
  case round =>
    obtain ⟨pos, fuel, acc, rfl, hp, hI, hbw, hacc, hfu, hal⟩ := hrel
    have HA := Lib.hid hacc
    clear hacc
    have hsz := bld_lt hI
    have hTr := Lib.hid (tabs_below HT.out hT2 hbw)
    by_cases hlt : pos < s.size
    · obtain ⟨f, rfl⟩ : ∃ f, fuel = f + 1 := ⟨fuel - 1, by omega⟩
      have hi1 : (pos : Int) ≤ (s.size : Int) := by omega
      by_cases hz : (ptS s pos).2 = 0
      · have hr := rune_any s pos hlt wr hTr.out 65533 1 (by rw [if_pos hz])
        have HZ := Lib.hid (show decS s = .inl pos by rw [← HA.out, decF_bad s f pos hlt hz]; rfl)
        clear hz HA
        go_wp2_with (go_at_call 60; refine hr.mono ?_; rintro e w2 ⟨rfl, hb2⟩)
        go_ret3
        rw [HZ.out]
        exact ⟨rfl, hbw.trans (hb2.mono (by omega))⟩
      · have hok := ptS_ok s pos hlt hz
        have hgo := decF_go s f pos hlt hz
        obtain ⟨p, hpe⟩ : ∃ p, (ptS s pos).1 = p := ⟨_, rfl⟩
        obtain ⟨n, hne⟩ : ∃ n, (ptS s pos).2 = n := ⟨_, rfl⟩
        have hr := rune_any s pos hlt wr hTr.out p n (by rw [if_neg hz, ← hpe, ← hne])
        rw [hpe, hne] at hok hgo
        rw [hne] at hz
        obtain ⟨ha, hb, hc, hd, he, hf⟩ := hok
        have HG := Lib.hid (show glue (acc ++ pu p) (decF s f (pos + n)) = decS s by rw [← HA.out, hgo, glue_glue])
        have hl2 := pu_length p
        have hl1 : p < 65536 → (pu p).length = 1 := fun h => by unfold pu; rw [if_pos h]; rfl
        have hlen : (acc ++ pu p).length ≤ pos + n := by
          rw [List.length_append]
          by_cases h : p < 65536
          · rw [hl1 h]; omega
          · have := hf (by omega); omega
        have hbl2 : (bL acc).length + 4 ≤ 140737488355328 := by rw [bL_length]; have := HS.out; omega
        have h12 : (((p : Int) == 65533) = false) ∨ (((p : Int) == 65533) = true ∧ ((n : Int) == 1) = false) := by
          by_cases h : p = 65533
          · right; constructor
            · simp; omega
            · simp; intro h1; have := he (by omega); omega
          · left; simp; omega
        have HC := Lib.hid hc
        clear hgo hd he hf hl1 hl2 hpe hne HA hc
        have hn0 : 0 ≤ (n : Int) := by omega
        have hn4 : (n : Int) ≤ 4 := by omega
        rcases h12 with h1 | ⟨h1, h2⟩
        all_goals
          go_wp2_with (first | (go_at_call 60; refine hr.mono ?_; rintro e w2 ⟨rfl, hb2⟩) | (go_at_call 61; refine (writePoint_any _ _ p HC.out _ (bld_below hI hb2) hbl2 (by have := hb2.size; omega)).mono ?_; rintro e w3 ⟨rfl, hI3, hb3⟩))
          go_roundw
          case rel => exact ⟨pos + n, f, acc ++ pu p, by go_num, by omega, by rw [bL_append]; exact hI3, (hbw.trans (hb2.mono (by omega))).trans hb3, HG.out, by omega, hlen⟩
          case measure => simp [intOf]; omega
    · have HZ := Lib.hid (show decS s = .inr acc by rw [← HA.out, decF_end s fuel pos hlt]; simp [glue])
      clear HA
      have hS := Tryd.Builder_String_any_k w.heap.size w.heap.size (bL acc) wr hI (by omega)
      go_wp2_with (go_at_call 62; refine hS.mono ?_; rintro e w2 ⟨rfl, _, hb2, _⟩)
      go_ret3
      rw [HZ.out]
      exact ⟨rfl, hbw.trans hb2⟩
end Go.Proofs.YthnkidncjkhndaaDoor
