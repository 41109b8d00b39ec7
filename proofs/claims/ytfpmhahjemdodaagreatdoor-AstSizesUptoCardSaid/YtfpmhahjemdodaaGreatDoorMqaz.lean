/-
  The contracts of the program's Quote and Spell. The contract of the program's Encode: a text as UTF-8 (of at most 2^44 bytes). The printer's state; its Builder told; a name, a number written.
-/
import Derived.OwnWalk
import GoSem.Core.Utf8
import Derived.Lib.Strings
import Derived.WalkKit
import Derived.WalkSpells
import Derived.WalkLawsBesides
import Derived.Deep.QuietTactic
import Derived.BigQuiet
import Derived.Laws.BitsAllLaws
import Derived.Lib.Hide
import Derived.Laws.BytesString
import Derived.Laws.Cells
import Derived.Deep.OwnRows
import Derived.Laws.CopyOwn
import Derived.Deep.AppendLies
import Derived.Lib.BitFns
import Derived.Lib.LaidTab
import Ieee.Arith
import GoSem.Core.Float
import Derived.Deep.RegionHeld3
import Derived.Laws.Closers25b
import Derived.ProofKit
import Derived.OpenShut
import Derived.SizedLaws
import Derived.Deep.RegionWith
import Derived.BigRegion
import Derived.Laws.FloatArith
import Derived.Laws.Externs
import Derived.Lib.ItoaNum
import Derived.Deep.DeepCutAuto
import Derived.Deep.WholeRow
import Derived.Laws.Tables
import Derived.Laws.EntriesVeiled
import Derived.Lib.SlTrimSet
import Derived.Lib.Case
import Derived.Lib.AppendIntMem
import Derived.Lib.RuneBytes
import Derived.Test.YtfpmhahjemdodaaGreatDoorProg
import Derived.Test.YtfpmhahjemdodaaGreatDoorRows
import Derived.Test.YtfpmhahjemdodaaGreatDoorShelf
import Derived.Test.YtfpmhahjemdodaaGreatDoorMqax
import Derived.Test.YtfpmhahjemdodaaGreatDoorMqay
import Derived.Test.YtfpmhahjemdodaaGreatDoorMqau
namespace Go.Proofs.YtfpmhahjemdodaaGreatDoor
open Go.RowKit
theorem take_snocL {L : List Nat} {i c : Nat} {r : List Nat} (h : L.drop i = c :: r) : L.take (i + 1) = L.take i ++ [c] := by
  have h1 : L[i]? = some c := by
    have := List.getElem?_drop (xs := L) (i := i) (j := 0)
    rw [h] at this
    simpa using this.symm
  rw [List.take_add_one, h1]
  rfl
theorem speU_len (c : Nat) : (speU c).length ≤ 6 := by unfold speU escU; split <;> simp
theorem flat_len {f : Nat → List Nat} (hf : ∀ c, (f c).length ≤ 6) : ∀ l : List Nat, (l.flatMap f).length ≤ 6 * l.length
  | [] => by simp
  | c :: l => by
    rw [List.flatMap_cons, List.length_append, List.length_cons]
    have := hf c
    have := flat_len hf l
    omega
theorem hxU_w {d : Nat} (h : d < 16) : hxU d < 65536 := by have := hxU_lt h; omega
theorem escU_lt (c : Nat) : ∀ u ∈ escU c, u < 65536 := by
  intro u hu
  unfold escU at hu
  simp at hu
  have h1 := hxU_w (d := c / 4096 % 16) (by omega)
  have h2 := hxU_w (d := c / 256 % 16) (by omega)
  have h3 := hxU_w (d := c / 16 % 16) (by omega)
  have h4 := hxU_w (d := c % 16) (by omega)
  rcases hu with rfl | rfl | rfl | rfl | rfl | rfl <;> omega
theorem speU_lt {c : Nat} (hc : c < 65536) : ∀ u ∈ speU c, u < 65536 := by
  intro u hu
  unfold speU at hu
  split at hu
  · simp at hu; omega
  · exact escU_lt c u hu
set_option maxRecDepth 100000 in
set_option maxHeartbeats 4000000 in
theorem xSpell_any (s : ByteArray) (w : World) (hs : s.size ≤ 274877906944) :
    Calls Tryz.prog 159 #[.string s] w fun e w' => e = (if nmdL (us s) = true then .returned (.tuple #[.string ⟨(bL (speL (us s))).toArray⟩, .int .i64 0]) else .returned (.tuple #[.string ⟨#[]⟩, .int .i64 1])) ∧ Below w.heap.size w w' := by
  have hs63 : s.size ≤ maxLen := by unfold maxLen; omega
  obtain ⟨i0, hi, hz0, hz1, hz2⟩ := info_parts info_u16
  have hln := ln_le s
  have CL := Lib.hid (fun W => len_any s W hs63)
  have CU := Lib.hid (fun (j : Nat) W => xunit_any s j W hs63)
  have CP := Lib.hid (fun (l : List Nat) (v : Value) (u : Nat) W (H : Own16 w.heap.size l v W) hB hu hl => xspelt_any w.heap.size l v u W H hB hu hl)
  have CM := Lib.hid (fun (l : List Nat) (v : Value) W (H : Own16 w.heap.size l v W) hu hl => make_own H hu hl)
  have CD := fun W => xNamed_any s W (by omega)
  obtain ⟨b, hb⟩ : ∃ b, nmdL (us s) = b := ⟨_, rfl⟩
  rw [hb] at CD ⊢
  have CD := Lib.hid CD
  obtain ⟨R, hR⟩ : ∃ R, speL (us s) = R := ⟨_, rfl⟩
  rw [hR]
  have HR := Lib.hid hR
  have HL := Lib.hid (show ln s ≤ 137438953472 by omega)
  obtain ⟨n, hn⟩ : ∃ n, ln s = n := ⟨_, rfl⟩
  have HN := Lib.hid hn
  rw [hn] at CL
  have CL := Lib.hid CL.out
  clear hs hs63 hln hn hR hb
  cases b
  · rw [if_neg (by simp)]
    go_enter Tryz.func159, Tryz.ntmps159
    go_wp2_with fail
    refine (CD.out _).mono ?_
    rintro e w' ⟨rfl, n0, rfl⟩
    go_wp2
    go_ret2
    exact ⟨rfl, below_drewN' (Below.refl _ _) n0⟩
  rw [if_pos rfl]
  go_enter Tryz.func159, Tryz.ntmps159
  go_wp2_with fail
  refine (CD.out _).mono ?_
  rintro e w' ⟨rfl, n0, rfl⟩
  go_wp2_with fail
  refine (CL.out _).mono ?_
  rintro e w' ⟨rfl, rfl⟩
  go_wp2
  go_loopw [4, 12] (fun lv iv wr => ∃ (i : Nat) (v : Value), lv = v ∧ iv = .int .i64 i ∧ i ≤ n ∧ Own16 w.heap.size (((us s).take i).flatMap speU) v wr ∧ Below w.heap.size w wr) (fun _ iv _ => n - (intOf iv).toNat)
  case atStart => exact ⟨0, _, rfl, by go_num, Nat.zero_le _, Own16.nil _ _, below_drewN' (Below.refl _ _) n0⟩
  case round =>
    obtain ⟨i, v, hv, rfl, hin, H, hb⟩ := hrel
    obtain rfl := hv.symm
    have hsz := hb.size
    have hil : (i : Int) ≤ 137438953472 := by have := HL.out; have := HN.out; omega
    obtain ⟨A, hA⟩ : ∃ A, ((us s).take i).flatMap speU = A := ⟨_, rfl⟩
    have hAl : A.length ≤ 824633720833 := by
      rw [← hA]
      have h1 := flat_len speU_len ((us s).take i)
      have h2 := List.length_take_le i (us s)
      have := HL.out; have := HN.out
      omega
    have hAu : ∀ u ∈ A, u < 65536 := by
      intro u hu
      rw [← hA] at hu
      simp at hu
      obtain ⟨c, hc, hu⟩ := hu
      exact speU_lt (us_lt s c (List.mem_of_mem_take hc)) u hu
    rw [hA] at H
    have HA := Lib.hid hA
    have HAu := Lib.hid hAu
    clear hA hAu hv
    rcases Nat.lt_or_ge i n with hlt | hge
    · obtain ⟨c, hd1, hd2⟩ := drop_step (L := us s) (k := i) (by rw [us_length, HN.out]; exact hlt)
      have HC : Hid (c < 65536) := Lib.hid (us_lt s c (List.mem_of_mem_drop (by rw [hd1]; simp)))
      have HS : Hid (((us s).take (i + 1)).flatMap speU = A ++ speU c) := Lib.hid (by
        rw [take_snocL hd1, List.flatMap_append, ← HA.out]
        simp)
      have C1 := CU.out i
      rw [hd2] at C1
      have C1 := Lib.hid C1
      clear hd1 hd2
      by_cases e1 : c < 128
      · have HQ : Hid (speU c = [c]) := Lib.hid (by unfold speU; rw [if_pos e1])
        have g3 : (c : Int) < 128 := by omega
        clear e1
        go_wp2_with fail
        refine (C1.out _).mono ?_
        rintro e w' ⟨rfl, n1, rfl⟩
        go_wp2_with (at_builtin; refine wpList_append_own _ rfl _ _ 117 rfl (w.heap.size) 54 i0 (.int .u16 0) 1 2 Tryz.underlying117 hi hz0 hz1 hz2 rfl (by decide) _ _ _ rfl (World.ownsRow.alloc (w := wr.drewN n1) H _) ⟨(wr.drewN n1).heap.size, 0, none⟩ 1 1 [_] rfl rfl (alloc_cells _ _ _) (by simp [Value.oneCell']) (by unfold maxLen; omega) (by omega) (by first | omega | (simp; omega)) ?_)
        intro v2 w2 hown hg _
        have hb2 : Below w.heap.size w w2 := ((below_drewN' hb n1).alloc (by simpa using hsz) _).grown hg (by simp; omega) (fun j hj => (World.ownsRow.lt H j hj).1)
        have o2 := Lib.hid (show Own16 w.heap.size (A ++ speU c) v2 w2 from by rw [HQ.out]; simpa [Own16] using hown)
        clear hown hg H hb
        go_wp2
        go_roundw
        case rel => exact ⟨i + 1, v2, rfl, by go_num, hlt, by rw [HS.out]; exact o2.out, hb2⟩
        case measure => simp [intOf]; omega
      · have HQ : Hid (speU c = escU c) := Lib.hid (by unfold speU; rw [if_neg e1])
        have g3 : ¬ ((c : Int) < 128) := by omega
        clear e1
        go_wp2_with fail
        refine (C1.out _).mono ?_
        rintro e w' ⟨rfl, n1, rfl⟩
        go_wp2_with fail
        refine (CP.out A v c (wr.drewN n1) H (by simpa using hsz) HC.out (by omega)).mono ?_
        rintro e w2 ⟨v2, rfl, o2, b2⟩
        have hb2 : Below w.heap.size w w2 := (below_drewN' hb n1).trans b2
        have o3 := Lib.hid (show Own16 w.heap.size (A ++ speU c) v2 w2 from by rw [HQ.out]; exact o2)
        clear o2 b2 H hb
        go_wp2
        go_roundw
        case rel => exact ⟨i + 1, v2, rfl, by go_num, hlt, by rw [HS.out]; exact o3.out, hb2⟩
        case measure => simp [intOf]; omega
    · obtain rfl : i = n := by omega
      obtain rfl : R = A := by
        rw [← HR.out, ← HA.out, ← HN.out, us_take_all]
        rfl
      have HB2 := Lib.hid hb
      clear hb
      go_wp2_with fail
      refine (CM.out R v wr H HAu.out (by omega)).mono ?_
      rintro e w3 ⟨rfl, b3⟩
      have HB3 := Lib.hid (below_le HB2.out b3)
      clear b3
      go_wp2
      go_ret2
      exact ⟨rfl, HB3.out⟩

end Go.Proofs.YtfpmhahjemdodaaGreatDoor
namespace Go.Proofs.YtfpmhahjemdodaaGreatDoor
open Go.RowKit
theorem cells_rune (l : List UInt8) (r : Int) : Lib.byteCells (l ++ Lib.encodeRune r) = Lib.byteCells l ++ Lib.runeCells r := by
  rw [Lib.byteCells_append, Lib.byteCells_encodeRune]
theorem writeRune_any (B : Nat) (l : List UInt8) (r : Int) (h0 : 0 ≤ r) (h1 : r ≤ 1114111) (w : World) (h : Bld B l w) (hlen : l.length + 4 ≤ 140737488355328) (hBw : B ≤ w.heap.size) :
    Calls Tryz.prog 162 #[.pointer (some ⟨B, 0, none⟩), .int .i32 r] w fun e w' => e = .returned (.tuple #[.int .i64 (Lib.runeCells r).length, .nilIface]) ∧ Bld B (l ++ Lib.encodeRune r) w' ∧ Below B w w' := by
  refine (Tryz.Builder_WriteRune_k B B _ r (by omega) (by omega) _ h (by rw [Lib.byteCells_length]; omega) hBw).mono ?_
  rintro e w' ⟨rfl, hb, bl, _⟩
  exact ⟨rfl, by rw [Bld, cells_rune]; exact .inr hb, bl⟩
theorem bld_drewN {B : Nat} {l : List UInt8} {w : World} (h : Bld B l w) (n : Nat) : Bld B l (w.drewN n) := h
set_option maxRecDepth 100000 in
set_option maxHeartbeats 2000000 in
theorem encode_any (s : ByteArray) (w : World) (hs : s.size ≤ 17592186044416) :
    Calls Tryz.prog 111 #[.string s] w fun e w' => e = .returned (.string ⟨(encS s).toArray⟩) ∧ Below w.heap.size w w' := by
  have hl := ln_le s
  have hm : ((ln s : Nat) : Int) ≤ 8796093022208 := by omega
  have hs63 : s.size ≤ maxLen := by unfold maxLen; omega
  have HS := Lib.hid hs
  have HL := Lib.hid hl
  have H63 := Lib.hid hs63
  clear hs hl hs63
  have hg : Calls Tryz.prog 28 #[.pointer (some ⟨w.heap.size, 0, none⟩), .int .i64 (ln s)] (w.alloc (.cells #[.pointer none, .slice none 0 0] 48)) fun e w' => e = .returned (.tuple #[]) ∧ (Lib.BuilderAt 48 5 w.heap.size w.heap.size (.pointer (some ⟨w.heap.size, 0, none⟩)) [] w' ∧ Below w.heap.size (w.alloc (.cells #[.pointer none, .slice none 0 0] 48)) w') :=
    Tryz.Builder_Grow_fresh w.heap.size w.heap.size (ln s) _ (Nat.le_refl _) (alloc_new w _) (by simp) (by have := HS.out; have := HL.out; omega)
  go_enter Tryz.func111, Tryz.ntmps111
  go_wp2_with fail
  refine (len_any s _ H63.out).mono ?_
  rintro e w' ⟨rfl, rfl⟩
  go_wp2_with fail
  refine hg.mono ?_
  rintro e w1 ⟨rfl, hb1, bl1⟩
  have hbl : Below w.heap.size w w1 := ((Below.refl w.heap.size w).alloc (Nat.le_refl _) _).trans bl1
  clear hg
  go_wp2
  go_loopw [4] (fun i wr => ∃ (k fuel : Nat) (acc : List UInt8), i = .int .i64 k ∧ k ≤ ln s ∧ Bld w.heap.size acc wr ∧ Below w.heap.size w wr ∧ acc ++ encF s fuel k = encS s ∧ ln s ≤ k + fuel ∧ acc.length ≤ 6 * k) (fun i _ => ln s - (intOf i).toNat)
  case atStart => exact ⟨0, ln s, [], rfl, Nat.zero_le _, Lib.IsBuilderF.of (.inr hb1), hbl, rfl, by omega, by simp⟩
  case round =>
    obtain ⟨k, fuel, acc, rfl, hk, hI, hbw, hacc, hfu, hal⟩ := hrel
    have HA := Lib.hid hacc
    clear hacc
    have hsz := bld_lt hI
    have c1 := fun W => len_any s W H63.out
    by_cases hlt : k < ln s
    · obtain ⟨f, rfl⟩ : ∃ f, fuel = f + 1 := ⟨fuel - 1, by omega⟩
      have c2 := fun W => at_any s k W hlt H63.out
      have c3 := fun W => pair_any s k W hlt H63.out
      have hu := un_lt s k
      have hbl2 : acc.length + 6 ≤ 140737488355328 := by have := HS.out; have := HL.out; omega
      cases hp : prB s k
      · cases h1 : (hiB (un s k) || loB (un s k))
        · have hA : oneU (un s k) = Lib.encodeRune (un s k) := by unfold oneU; rw [h1]; rfl
          have HG := Lib.hid (show (acc ++ Lib.encodeRune (un s k)) ++ encF s f (k + 1) = encS s by rw [← HA.out, encF_one s f k hlt hp, hA, List.append_assoc])
          have hlen : (acc ++ Lib.encodeRune (un s k)).length ≤ 6 * (k + 1) := by rw [List.length_append]; have := enc_le (un s k); omega
          have h2 : decide (((un s k : Nat) : Int) < 55296) = true ∨ (decide (((un s k : Nat) : Int) < 55296) = false ∧ decide ((57344 : Int) ≤ ((un s k : Nat) : Int)) = true) := by
            simp [hiB, loB] at h1; simp; omega
          have hr := fun W h hb => writeRune_any w.heap.size acc (un s k) (by omega) (by omega) W h (by omega) hb
          have hlt' : (k : Int) < (ln s : Int) := by omega
          clear hA HA h1 hp hu hbl2 c3
          have hw := Lib.hid (show wrap32 ((un s k : Nat) : Int) = ((un s k : Nat) : Int) by have := un_lt s k; unfold wrap32; omega)
          rcases h2 with h2 | ⟨h2, h3⟩
          all_goals
            go_wp2_with fail
            refine (c1 _).mono ?_
            rintro e w' ⟨rfl, rfl⟩
            go_wp2_with fail
            refine (c2 _).mono ?_
            rintro e w' ⟨rfl, n, rfl⟩
            go_wp2_with fail
            rw [hw.out]
            refine (hr _ (bld_drewN hI n) (by have := hbw.size; simpa using this)).mono ?_
            rintro e w3 ⟨rfl, hI3, hb3⟩
            go_wp2
            go_roundw
            case rel => exact ⟨k + 1, f, acc ++ Lib.encodeRune (un s k), by go_num, by omega, hI3, (below_drewN' hbw n).trans hb3, HG.out, by omega, hlen⟩
            case measure => simp [intOf]; omega
        · have hA : oneU (un s k) = esc (un s k) := by unfold oneU; rw [h1]; rfl
          have HG := Lib.hid (show (acc ++ esc (un s k)) ++ encF s f (k + 1) = encS s by rw [← HA.out, encF_one s f k hlt hp, hA, List.append_assoc])
          have hlen : (acc ++ esc (un s k)).length ≤ 6 * (k + 1) := by rw [List.length_append]; simp [esc]; omega
          have h23 : decide (((un s k : Nat) : Int) < 55296) = false ∧ decide ((57344 : Int) ≤ ((un s k : Nat) : Int)) = false := by
            simp [hiB, loB] at h1; simp; omega
          obtain ⟨h2, h3⟩ := h23
          have hr := fun W h hb => writeEscape_any w.heap.size acc (un s k) (by omega) W h (by omega) hb
          have hlt' : (k : Int) < (ln s : Int) := by omega
          have HP := Lib.hid hp
          clear hA HA h1 hp hu hbl2
          go_wp2_with fail
          refine (c1 _).mono ?_
          rintro e w' ⟨rfl, rfl⟩
          go_wp2_with fail
          refine (c2 _).mono ?_
          rintro e w' ⟨rfl, n, rfl⟩
          go_wp2_with fail
          refine (c3 _).mono ?_
          rw [HP.out]
          rintro e w' ⟨rfl, n2, rfl⟩
          go_wp2_with fail
          refine (hr _ (bld_drewN hI (n + n2)) (by have := hbw.size; simpa using this)).mono ?_
          rintro e w3 ⟨rfl, hI3, hb3⟩
          go_wp2
          go_roundw
          case rel => exact ⟨k + 1, f, acc ++ esc (un s k), by go_num, by omega, hI3, (below_drewN' hbw (n + n2)).trans hb3, HG.out, by omega, hlen⟩
          case measure => simp [intOf]; omega
      · have hpp := prB_parts s k hp
        have hlt' : (k : Int) < (ln s : Int) := by omega
        have c4 : ∀ W, Calls Tryz.prog 161 #[.string s, .int .i64 ((k : Int) + 1)] W fun e w' => e = .returned (.int .u16 (un s (k + 1))) ∧ ∃ n, w' = W.drewN n := fun W => by
          rw [show ((k : Int) + 1) = ((k + 1 : Nat) : Int) by omega]; exact at_any s (k + 1) W hpp.1 H63.out
        have h2 : decide (((un s k : Nat) : Int) < 55296) = false := by simp; omega
        have h3 : decide ((57344 : Int) ≤ ((un s k : Nat) : Int)) = false := by simp; omega
        have hP := Lib.hid (show ((prP s k : Nat) : Int) = 65536 + (((un s k : Nat) : Int) - 55296) * 1024 + (((un s (k + 1) : Nat) : Int) - 56320) by unfold prP; omega)
        have hr := fun W h hb => writeRune_any w.heap.size acc (65536 + (((un s k : Nat) : Int) - 55296) * 1024 + (((un s (k + 1) : Nat) : Int) - 56320)) (by omega) (by omega) W h (by omega) hb
        have HG := Lib.hid (show (acc ++ Lib.encodeRune (prP s k)) ++ encF s f (k + 2) = encS s by rw [← HA.out, encF_pair s f k hlt hp, List.append_assoc])
        have hlen : (acc ++ Lib.encodeRune (prP s k)).length ≤ 6 * (k + 2) := by rw [List.length_append]; have := enc_le (prP s k); omega
        clear HA
        go_wp2_with fail
        refine (c1 _).mono ?_
        rintro e w' ⟨rfl, rfl⟩
        go_wp2_with fail
        refine (c2 _).mono ?_
        rintro e w' ⟨rfl, n, rfl⟩
        go_wp2_with fail
        refine (c3 _).mono ?_
        rw [hp]
        rintro e w' ⟨rfl, n2, rfl⟩
        go_wp2_with fail
        refine (c4 _).mono ?_
        rintro e w' ⟨rfl, n3, rfl⟩
        go_wp2_with fail
        refine (hr _ (bld_drewN hI (n + n2 + n3)) (by have := hbw.size; simpa using this)).mono ?_
        rintro e w3 ⟨rfl, hI3, hb3⟩
        go_wp2
        go_roundw
        case rel => exact ⟨k + 2, f, acc ++ Lib.encodeRune (prP s k), by go_num, by omega, by rw [hP.out]; exact hI3, (below_drewN' hbw (n + n2 + n3)).trans hb3, HG.out, by omega, hlen⟩
        case measure => simp [intOf]; omega
    · have HZ := Lib.hid (show acc = encS s by rw [← HA.out, encF_end s fuel k hlt, List.append_nil])
      have hS := Tryz.Builder_String_any_k w.heap.size w.heap.size acc wr hI (by omega)
      have hlt' : ¬ ((k : Int) < (ln s : Int)) := by omega
      clear HA
      go_wp2_with (first | (go_at_call 158; refine (c1 _).mono ?_; rintro e w' ⟨rfl, rfl⟩) | (go_at_call 20; refine hS.mono ?_; rintro e w2 ⟨rfl, _, hb2, _⟩))
      go_ret
      rw [← HZ.out]
      exact ⟨rfl, hbw.trans hb2⟩

end Go.Proofs.YtfpmhahjemdodaaGreatDoor
namespace Go.Proofs.YtfpmhahjemdodaaGreatDoor
open Go.RowKit Go.Shelf
attribute [local go_sem] stFl hmf
/-- A printer whose block is g, its table behind it: what is written, and what stays since W0. -/
structure PS (W0 : World) (g : Nat) (bs : List Value) (W : World) : Prop where
  p : Pr (g + 2) g bs false false (.slice (some ⟨g + 1, 0, none⟩) 63 63) W
  k : Kb (g + 2) g W0 W
theorem Kb.of {B g : Nat} {W W' : World} (b : Below W.heap.size W W') (hB : B ≤ W.heap.size) : Kb B g W W' :=
  ⟨b.os, b.tape, b.output, b.size, fun k h _ => b.block k (by omega), fun k o hk _ _ => (b.block k (Array.getElem?_eq_some_iff.1 hk).1).trans hk⟩
theorem Pr.on {B g : Nat} {bs : List Value} {l o : Bool} {ks : Value} {W W' : World} (h : Pr B g bs l o ks W) (b : Below W.heap.size W W') : Pr B g bs l o ks W' := by
  obtain ⟨hgB, hBw, p, v, hp, hg, hown⟩ := h
  refine ⟨hgB, Nat.le_trans hBw b.size, p, v, hp, (b.block g (by omega)).trans hg, hown.kept (row := none) ⟨b.os, b.tape, b.output, b.size, fun k hk _ => b.block k hk⟩ ?_⟩
  cases hv : v.ownBlock <;> simp
theorem PS.on {W0 W W' : World} {g : Nat} {bs : List Value} (h : PS W0 g bs W) (b : Below W.heap.size W W') : PS W0 g bs W' := ⟨h.p.on b, h.k.trans (Kb.of b h.p.le)⟩
theorem PS.kb {W0 W W' : World} {g : Nat} {bs : List Value} (h : PS W0 g bs W) (b : Below W.heap.size W W') : Kb (g + 2) g W W' := Kb.of b h.p.le
theorem write_s {W0 : World} {g : Nat} {bs : List Value} (s : ByteArray) {w : World} (h : PS W0 g bs w) (hn : bs.length + s.size ≤ 2097152) :
    Calls Tryz.prog 108 #[.pointer (some ⟨g, 0, none⟩), .string s] w fun e w' => e = .returned (.tuple #[]) ∧ PS W0 g (bs ++ Lib.strCells s) w' ∧ Kb (g + 2) g w w' :=
  (write_p _ g bs false _ s w h.p hn).mono fun _ _ hp => ⟨hp.1, ⟨hp.2.1, h.k.trans hp.2.2⟩, hp.2.2⟩
theorem room_s {W0 : World} {g : Nat} {bs : List Value} (n : Nat) {w : World} (h : PS W0 g bs w) (hn : bs.length + n ≤ 2097152) :
    Calls Tryz.prog 156 #[.pointer (some ⟨g, 0, none⟩), .int .i64 (n : Nat)] w fun e w' => e = .returned (.bool true) ∧ PS W0 g bs w' ∧ Kb (g + 2) g w w' :=
  (room_p _ g bs false _ n w h.p hn).mono fun _ _ hp => ⟨hp.1, ⟨hp.2.1, h.k.trans hp.2.2⟩, hp.2.2⟩
theorem new1 (W : World) (c : Array Value) (t : TypeId) : (W.alloc (.cells c t)).heap[W.heap.size]? = some (.cells c t (0, 0)) := heap_alloc_last W _
def nd1 : Nd := ⟨5, ⟨#[]⟩, ⟨#[]⟩, 4607182418800017408, false, 0⟩
def ndf : Nd := ⟨2, ⟨#[]⟩, wdS [102], 0, false, 0⟩
def s1 : ByteArray := ⟨#[49]⟩
def sf : ByteArray := ⟨#[102]⟩
theorem wide_1 (W : World) : Calls Tryz.prog 19 #[.string ⟨#[49]⟩] W fun e w' => e = .returned (.string (wdS [49])) ∧ Below W.heap.size W w' := twide_any [49] W (by decide) (by decide)
theorem enc_1 (W : World) : Calls Tryz.prog 111 #[.string (wdS [49])] W fun e w' => e = .returned (.string s1) ∧ Below W.heap.size W w' := by
  have h := encode_any (wdS [49]) W (by decide +kernel)
  rw [show (⟨(encS (wdS [49])).toArray⟩ : ByteArray) = s1 by decide +kernel] at h
  exact h
theorem enc_f (W : World) : Calls Tryz.prog 111 #[.string (wdS [102])] W fun e w' => e = .returned (.string sf) ∧ Below W.heap.size W w' := by
  have h := encode_any (wdS [102]) W (by decide +kernel)
  rw [show (⟨(encS (wdS [102])).toArray⟩ : ByteArray) = sf by decide +kernel] at h
  exact h
theorem len_f (W : World) : Calls Tryz.prog 158 #[.string (wdS [102])] W fun e w' => e = .returned (.int .i64 1) ∧ W = w' := by
  have h := len_any (wdS [102]) W (by decide +kernel)
  rw [show ln (wdS [102]) = 1 by decide +kernel] at h
  exact h
theorem spell_f (W : World) : Calls Tryz.prog 159 #[.string (wdS [102])] W fun e w' => e = .returned (.tuple #[.string (wdS [102]), .int .i64 0]) ∧ Below W.heap.size W w' := by
  have h := xSpell_any (wdS [102]) W (by decide +kernel)
  rw [if_pos (show nmdL (us (wdS [102])) = true by decide +kernel), show (⟨(bL (speL (us (wdS [102])))).toArray⟩ : ByteArray) = wdS [102] by decide +kernel] at h
  exact h
set_option maxRecDepth 100000 in
set_option maxHeartbeats 2000000 in
theorem number_s {W0 : World} {g : Nat} {bs : List Value} (s : Value) {w : World} (h : PS W0 g bs w) (hn : bs.length + s1.size ≤ 2097152) :
    Calls Tryz.prog 41 #[.pointer (some ⟨g, 0, none⟩), nodV nd1 s] w fun e w' => e = .returned (.tuple #[]) ∧ PS W0 g (bs ++ Lib.strCells s1) w' ∧ Kb (g + 2) g w w' := by
  have C1 := Lib.hid minf_1
  have C2 := Lib.hid (fun W => tText_1 W wide_1)
  have C3 := Lib.hid enc_1
  have C4 := Lib.hid (fun W (h : PS W0 g bs W) => write_s s1 h hn)
  obtain ⟨S, hS⟩ : ∃ S, wdS [49] = S := ⟨_, rfl⟩
  rw [hS] at C2 C3
  obtain ⟨Q, hQ⟩ : ∃ S, s1 = S := ⟨_, rfl⟩
  rw [hQ] at C3 C4 ⊢
  clear hS hQ hn
  unfold nodV nd1
  dsimp only
  go_enter Tryz.func41, Tryz.ntmps41
  go_upto_region 1 with fail
  obtain ⟨W1, hW1⟩ : ∃ W1, w.alloc (.cells #[.int .i64 5, .string ⟨#[]⟩, .string ⟨#[]⟩, .float .f64 4607182418800017408, .bool false, s, .int .i64 0] 25) = W1 := ⟨_, rfl⟩
  have hb : Below w.heap.size w W1 := by rw [← hW1]; exact b1 _
  have n1 : W1.heap[w.heap.size]? = some (.cells #[.int .i64 5, .string ⟨#[]⟩, .string ⟨#[]⟩, .float .f64 4607182418800017408, .bool false, s, .int .i64 0] 25 (0, 0)) := by rw [← hW1]; exact new1 w _ _
  have H1 := Lib.hid (h.on hb)
  have K1 := Lib.hid (h.kb hb)
  have c3 : W1.cell? ⟨w.heap.size, 3, none⟩ = some (.float .f64 4607182418800017408) := (cell_of_row W1 _ 3 _ _ _ n1).trans rfl
  rw [hW1]
  clear hW1 hb h n1
  go_wp2_with fail
  refine (C1.out _).mono ?_
  rintro e w' ⟨rfl, rfl⟩
  go_wp2_with fail
  refine (C2.out _).mono ?_
  rintro e w2 ⟨rfl, b2⟩
  have H2 := Lib.hid (H1.out.on b2)
  have K2 := Lib.hid (K1.out.trans (H1.out.kb b2))
  clear b2 H1 K1 C1 C2 c3
  go_wp2_with fail
  refine (C3.out _).mono ?_
  rintro e w3 ⟨rfl, b3⟩
  have H3 := Lib.hid (H2.out.on b3)
  have K3 := Lib.hid (K2.out.trans (H2.out.kb b3))
  clear b3 H2 K2 C3
  go_wp2_with fail
  refine (C4.out _ H3.out).mono ?_
  rintro e w4 ⟨rfl, h4, k4⟩
  have H4 := Lib.hid h4
  have K4 := Lib.hid (K3.out.trans k4)
  clear C4 h4 k4 H3 K3
  go_wp2
  go_end0
  exact ⟨rfl, H4.out, K4.out⟩
set_option maxRecDepth 100000 in
set_option maxHeartbeats 2000000 in
theorem spell_s {W0 : World} {g : Nat} {bs : List Value} {w : World} (h : PS W0 g bs w) (hn : bs.length + sf.size ≤ 2097152) :
    Calls Tryz.prog 109 #[.pointer (some ⟨g, 0, none⟩), .string (wdS [102])] w fun e w' => e = .returned (.tuple #[]) ∧ PS W0 g (bs ++ Lib.strCells sf) w' ∧ Kb (g + 2) g w w' := by
  have C1 := Lib.hid len_f
  have C2 := Lib.hid (fun W (h : PS W0 g bs W) => room_s 1 h hn)
  have C3 := Lib.hid spell_f
  have C4 := Lib.hid enc_f
  have C5 := Lib.hid (fun W (h : PS W0 g bs W) => write_s sf h hn)
  obtain ⟨S, hS⟩ : ∃ S, wdS [102] = S := ⟨_, rfl⟩
  rw [hS] at C1 C3 C4 ⊢
  obtain ⟨Q, hQ⟩ : ∃ S, sf = S := ⟨_, rfl⟩
  rw [hQ] at C4 C5 ⊢
  have H := Lib.hid h
  clear hS hQ hn h
  go_enter Tryz.func109, Tryz.ntmps109
  go_wp2_with fail
  refine (C1.out _).mono ?_
  rintro e w' ⟨rfl, rfl⟩
  clear C1
  go_wp2_with fail
  refine (C2.out _ H.out).mono ?_
  rintro e w1 ⟨rfl, h1, k1⟩
  have H1 := Lib.hid h1
  have K1 := Lib.hid k1
  clear C2 H h1 k1
  go_wp2_with fail
  refine (C3.out _).mono ?_
  rintro e w3 ⟨rfl, b3⟩
  have H3 := Lib.hid (H1.out.on b3)
  have K3 := Lib.hid (K1.out.trans (H1.out.kb b3))
  clear b3 H1 K1 C3
  go_wp2_with fail
  refine (C4.out _).mono ?_
  rintro e w4 ⟨rfl, b4⟩
  have H4 := Lib.hid (H3.out.on b4)
  have K4 := Lib.hid (K3.out.trans (H3.out.kb b4))
  clear b4 H3 K3 C4
  go_wp2_with fail
  refine (C5.out _ H4.out).mono ?_
  rintro e w5 ⟨rfl, h5, k5⟩
  have H5 := Lib.hid h5
  have K5 := Lib.hid (K4.out.trans k5)
  clear C5 h5 k5 H4 K4
  go_wp2
  go_end0
  exact ⟨rfl, H5.out, K5.out⟩
set_option maxRecDepth 100000 in
set_option maxHeartbeats 2000000 in
theorem name_s {W0 : World} {g : Nat} {bs : List Value} (s : Value) {w : World} (h : PS W0 g bs w) (hn : bs.length + sf.size ≤ 2097152) :
    Calls Tryz.prog 38 #[.pointer (some ⟨g, 0, none⟩), nodV ndf s] w fun e w' => e = .returned (.tuple #[]) ∧ PS W0 g (bs ++ Lib.strCells sf) w' ∧ Kb (g + 2) g w w' := by
  have C1 := Lib.hid (fun W (h : PS W0 g bs W) => spell_s h hn)
  unfold nodV ndf
  dsimp only
  obtain ⟨S, hS⟩ : ∃ S, wdS [102] = S := ⟨_, rfl⟩
  rw [hS] at C1 ⊢
  obtain ⟨Q, hQ⟩ : ∃ S, sf = S := ⟨_, rfl⟩
  rw [hQ] at C1 ⊢
  clear hS hQ hn
  go_enter Tryz.func38, Tryz.ntmps38
  go_upto_region 1 with fail
  obtain ⟨W1, hW1⟩ : ∃ W1, w.alloc (.cells #[.int .i64 2, .string ⟨#[]⟩, .string S, .float .f64 0, .bool false, s, .int .i64 0] 25) = W1 := ⟨_, rfl⟩
  have hb : Below w.heap.size w W1 := by rw [← hW1]; exact b1 _
  have n1 : W1.heap[w.heap.size]? = some (.cells #[.int .i64 2, .string ⟨#[]⟩, .string S, .float .f64 0, .bool false, s, .int .i64 0] 25 (0, 0)) := by rw [← hW1]; exact new1 w _ _
  have H1 := Lib.hid (h.on hb)
  have K1 := Lib.hid (h.kb hb)
  have c2 : W1.cell? ⟨w.heap.size, 2, none⟩ = some (.string S) := (cell_of_row W1 _ 2 _ _ _ n1).trans rfl
  rw [hW1]
  clear hW1 hb h n1
  go_wp2_with fail
  refine (C1.out _ H1.out).mono ?_
  rintro e w4 ⟨rfl, h4, k4⟩
  have H4 := Lib.hid h4
  have K4 := Lib.hid (K1.out.trans k4)
  clear C1 h4 k4 H1 K1
  go_wp2
  go_end0
  exact ⟨rfl, H4.out, K4.out⟩
end Go.Proofs.YtfpmhahjemdodaaGreatDoor
