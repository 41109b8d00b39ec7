/-
  The contract of the program's Encode: a text as UTF-8 (of at most 2^44 bytes).
-/
import GoSem.Core.Utf8
import Derived.Lib.Strings
import Derived.WalkKit
import Derived.WalkSpells
import Derived.WalkLawsBesides
import Derived.Deep.QuietTactic
import Derived.BigQuiet
import Derived.Laws.BitsAllLaws
import Derived.Lib.Hide
import Derived.Laws.BytesString
import Derived.Laws.Cells
import Derived.Deep.OwnRows
import Derived.Laws.CopyOwn
import Derived.Deep.AppendLies
import Derived.Lib.BitFns
import Derived.Lib.LaidTab
import Derived.Lib.RuneBytes
import Derived.Test.YtjbofhaiephedaaGreatProg
import Derived.Test.YtjbofhaiephedaaGreatShelf
import Derived.Test.YtjbofhaiephedaaGreatEsc
namespace Go.Proofs.YtjbofhaiephedaaGreat
open Go.RowKit
theorem cells_rune (l : List UInt8) (r : Int) : Lib.byteCells (l ++ Lib.encodeRune r) = Lib.byteCells l ++ Lib.runeCells r := by
  rw [Lib.byteCells_append, Lib.byteCells_encodeRune]
theorem writeRune_any (B : Nat) (l : List UInt8) (r : Int) (h0 : 0 ≤ r) (h1 : r ≤ 1114111) (w : World) (h : Bld B l w) (hlen : l.length + 4 ≤ 140737488355328) (hBw : B ≤ w.heap.size) :
    Calls Tryz.prog 157 #[.pointer (some ⟨B, 0, none⟩), .int .i32 r] w fun e w' => e = .returned (.tuple #[.int .i64 (Lib.runeCells r).length, .nilIface]) ∧ Bld B (l ++ Lib.encodeRune r) w' ∧ Below B w w' := by
  refine (Tryz.Builder_WriteRune_k B B _ r (by omega) (by omega) _ h (by rw [Lib.byteCells_length]; omega) hBw).mono ?_
  rintro e w' ⟨rfl, hb, bl, _⟩
  exact ⟨rfl, by rw [Bld, cells_rune]; exact .inr hb, bl⟩
theorem bld_drewN {B : Nat} {l : List UInt8} {w : World} (h : Bld B l w) (n : Nat) : Bld B l (w.drewN n) := h
set_option maxRecDepth 100000 in
set_option maxHeartbeats 2000000 in
theorem encode_any (s : ByteArray) (w : World) (hs : s.size ≤ 17592186044416) :
    Calls Tryz.prog 147 #[.string s] w fun e w' => e = .returned (.string ⟨(encS s).toArray⟩) ∧ Below w.heap.size w w' := by
  have hl := ln_le s
  have hm : ((ln s : Nat) : Int) ≤ 8796093022208 := by omega
  have hs63 : s.size ≤ maxLen := by unfold maxLen; omega
  have HS := Lib.hid hs
  have HL := Lib.hid hl
  have H63 := Lib.hid hs63
  clear hs hl hs63
  have hg : Calls Tryz.prog 155 #[.pointer (some ⟨w.heap.size, 0, none⟩), .int .i64 (ln s)] (w.alloc (.cells #[.pointer none, .slice none 0 0] 131)) fun e w' => e = .returned (.tuple #[]) ∧ (Lib.BuilderAt 131 5 w.heap.size w.heap.size (.pointer (some ⟨w.heap.size, 0, none⟩)) [] w' ∧ Below w.heap.size (w.alloc (.cells #[.pointer none, .slice none 0 0] 131)) w') :=
    Tryz.Builder_Grow_fresh w.heap.size w.heap.size (ln s) _ (Nat.le_refl _) (alloc_new w _) (by simp) (by have := HS.out; have := HL.out; omega)
  go_enter Tryz.func147, Tryz.ntmps147
  go_wp2_with fail
  refine (len_any s _ H63.out).mono ?_
  rintro e w' ⟨rfl, rfl⟩
  go_wp2_with fail
  refine hg.mono ?_
  rintro e w1 ⟨rfl, hb1, bl1⟩
  have hbl : Below w.heap.size w w1 := ((Below.refl w.heap.size w).alloc (Nat.le_refl _) _).trans bl1
  clear hg
  go_wp2
  go_loopw [4] (fun i wr => ∃ (k fuel : Nat) (acc : List UInt8), i = .int .i64 k ∧ k ≤ ln s ∧ Bld w.heap.size acc wr ∧ Below w.heap.size w wr ∧ acc ++ encF s fuel k = encS s ∧ ln s ≤ k + fuel ∧ acc.length ≤ 6 * k) (fun i _ => ln s - (intOf i).toNat)
  case atStart => exact ⟨0, ln s, [], rfl, Nat.zero_le _, Lib.IsBuilderF.of (.inr hb1), hbl, rfl, by omega, by simp⟩
  case round =>
    obtain ⟨k, fuel, acc, rfl, hk, hI, hbw, hacc, hfu, hal⟩ := hrel
    have HA := Lib.hid hacc
    clear hacc
    have hsz := bld_lt hI
    have c1 := fun W => len_any s W H63.out
    by_cases hlt : k < ln s
    · obtain ⟨f, rfl⟩ : ∃ f, fuel = f + 1 := ⟨fuel - 1, by omega⟩
      have c2 := fun W => at_any s k W hlt H63.out
      have c3 := fun W => pair_any s k W hlt H63.out
      have hu := un_lt s k
      have hbl2 : acc.length + 6 ≤ 140737488355328 := by have := HS.out; have := HL.out; omega
      cases hp : prB s k
      · cases h1 : (hiB (un s k) || loB (un s k))
        · have hA : oneU (un s k) = Lib.encodeRune (un s k) := by unfold oneU; rw [h1]; rfl
          have HG := Lib.hid (show (acc ++ Lib.encodeRune (un s k)) ++ encF s f (k + 1) = encS s by rw [← HA.out, encF_one s f k hlt hp, hA, List.append_assoc])
          have hlen : (acc ++ Lib.encodeRune (un s k)).length ≤ 6 * (k + 1) := by rw [List.length_append]; have := enc_le (un s k); omega
          have h2 : decide (((un s k : Nat) : Int) < 55296) = true ∨ (decide (((un s k : Nat) : Int) < 55296) = false ∧ decide ((57344 : Int) ≤ ((un s k : Nat) : Int)) = true) := by
            simp [hiB, loB] at h1; simp; omega
          have hr := fun W h hb => writeRune_any w.heap.size acc (un s k) (by omega) (by omega) W h (by omega) hb
          have hlt' : (k : Int) < (ln s : Int) := by omega
          clear hA HA h1 hp hu hbl2 c3
          have hw := Lib.hid (show wrap32 ((un s k : Nat) : Int) = ((un s k : Nat) : Int) by have := un_lt s k; unfold wrap32; omega)
          rcases h2 with h2 | ⟨h2, h3⟩
          all_goals
            go_wp2_with fail
            refine (c1 _).mono ?_
            rintro e w' ⟨rfl, rfl⟩
            go_wp2_with fail
            refine (c2 _).mono ?_
            rintro e w' ⟨rfl, n, rfl⟩
            go_wp2_with fail
            rw [hw.out]
            refine (hr _ (bld_drewN hI n) (by have := hbw.size; simpa using this)).mono ?_
            rintro e w3 ⟨rfl, hI3, hb3⟩
            go_wp2
            go_roundw
            case rel => exact ⟨k + 1, f, acc ++ Lib.encodeRune (un s k), by go_num, by omega, hI3, (below_drewN' hbw n).trans hb3, HG.out, by omega, hlen⟩
            case measure => simp [intOf]; omega
        · have hA : oneU (un s k) = esc (un s k) := by unfold oneU; rw [h1]; rfl
          have HG := Lib.hid (show (acc ++ esc (un s k)) ++ encF s f (k + 1) = encS s by rw [← HA.out, encF_one s f k hlt hp, hA, List.append_assoc])
          have hlen : (acc ++ esc (un s k)).length ≤ 6 * (k + 1) := by rw [List.length_append]; simp [esc]; omega
          have h23 : decide (((un s k : Nat) : Int) < 55296) = false ∧ decide ((57344 : Int) ≤ ((un s k : Nat) : Int)) = false := by
            simp [hiB, loB] at h1; simp; omega
          obtain ⟨h2, h3⟩ := h23
          have hr := fun W h hb => writeEscape_any w.heap.size acc (un s k) (by omega) W h (by omega) hb
          have hlt' : (k : Int) < (ln s : Int) := by omega
          have HP := Lib.hid hp
          clear hA HA h1 hp hu hbl2
          go_wp2_with fail
          refine (c1 _).mono ?_
          rintro e w' ⟨rfl, rfl⟩
          go_wp2_with fail
          refine (c2 _).mono ?_
          rintro e w' ⟨rfl, n, rfl⟩
          go_wp2_with fail
          refine (c3 _).mono ?_
          rw [HP.out]
          rintro e w' ⟨rfl, n2, rfl⟩
          go_wp2_with fail
          refine (hr _ (bld_drewN hI (n + n2)) (by have := hbw.size; simpa using this)).mono ?_
          rintro e w3 ⟨rfl, hI3, hb3⟩
          go_wp2
          go_roundw
          case rel => exact ⟨k + 1, f, acc ++ esc (un s k), by go_num, by omega, hI3, (below_drewN' hbw (n + n2)).trans hb3, HG.out, by omega, hlen⟩
          case measure => simp [intOf]; omega
      · have hpp := prB_parts s k hp
        have hlt' : (k : Int) < (ln s : Int) := by omega
        have c4 : ∀ W, Calls Tryz.prog 156 #[.string s, .int .i64 ((k : Int) + 1)] W fun e w' => e = .returned (.int .u16 (un s (k + 1))) ∧ ∃ n, w' = W.drewN n := fun W => by
          rw [show ((k : Int) + 1) = ((k + 1 : Nat) : Int) by omega]; exact at_any s (k + 1) W hpp.1 H63.out
        have h2 : decide (((un s k : Nat) : Int) < 55296) = false := by simp; omega
        have h3 : decide ((57344 : Int) ≤ ((un s k : Nat) : Int)) = false := by simp; omega
        have hP := Lib.hid (show ((prP s k : Nat) : Int) = 65536 + (((un s k : Nat) : Int) - 55296) * 1024 + (((un s (k + 1) : Nat) : Int) - 56320) by unfold prP; omega)
        have hr := fun W h hb => writeRune_any w.heap.size acc (65536 + (((un s k : Nat) : Int) - 55296) * 1024 + (((un s (k + 1) : Nat) : Int) - 56320)) (by omega) (by omega) W h (by omega) hb
        have HG := Lib.hid (show (acc ++ Lib.encodeRune (prP s k)) ++ encF s f (k + 2) = encS s by rw [← HA.out, encF_pair s f k hlt hp, List.append_assoc])
        have hlen : (acc ++ Lib.encodeRune (prP s k)).length ≤ 6 * (k + 2) := by rw [List.length_append]; have := enc_le (prP s k); omega
        clear HA
        go_wp2_with fail
        refine (c1 _).mono ?_
        rintro e w' ⟨rfl, rfl⟩
        go_wp2_with fail
        refine (c2 _).mono ?_
        rintro e w' ⟨rfl, n, rfl⟩
        go_wp2_with fail
        refine (c3 _).mono ?_
        rw [hp]
        rintro e w' ⟨rfl, n2, rfl⟩
        go_wp2_with fail
        refine (c4 _).mono ?_
        rintro e w' ⟨rfl, n3, rfl⟩
        go_wp2_with fail
        refine (hr _ (bld_drewN hI (n + n2 + n3)) (by have := hbw.size; simpa using this)).mono ?_
        rintro e w3 ⟨rfl, hI3, hb3⟩
        go_wp2
        go_roundw
        case rel => exact ⟨k + 2, f, acc ++ Lib.encodeRune (prP s k), by go_num, by omega, by rw [hP.out]; exact hI3, (below_drewN' hbw (n + n2 + n3)).trans hb3, HG.out, by omega, hlen⟩
        case measure => simp [intOf]; omega
    · have HZ := Lib.hid (show acc = encS s by rw [← HA.out, encF_end s fuel k hlt, List.append_nil])
      have hS := Tryz.Builder_String_any_k w.heap.size w.heap.size acc wr hI (by omega)
      have hlt' : ¬ ((k : Int) < (ln s : Int)) := by omega
      clear HA
      go_wp2_with (first | (go_at_call 149; refine (c1 _).mono ?_; rintro e w' ⟨rfl, rfl⟩) | (go_at_call 160; refine hS.mono ?_; rintro e w2 ⟨rfl, _, hb2, _⟩))
      go_ret
      rw [← HZ.out]
      exact ⟨rfl, hbw.trans hb2⟩

end Go.Proofs.YtjbofhaiephedaaGreat
