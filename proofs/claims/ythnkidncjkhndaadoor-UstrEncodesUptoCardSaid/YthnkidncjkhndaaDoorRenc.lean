/-
  The contract of the reference's Encode (a text of at most 2^44 bytes), and of the law UstrEncodes.
-/
import Derived.Test.YthnkidncjkhndaaDoorRutf
import Derived.Test.YthnkidncjkhndaaDoorAwake
import Derived.Test.YthnkidncjkhndaaDoorEsc
import Derived.Deep.AppendLies
import Derived.Deep.RegionLaw
namespace Go.Proofs.YthnkidncjkhndaaDoor
open Go.RowKit
theorem digs_int2 (x : Nat) (hx16 : x / 4096 < 16) (h : (((x : Int) / 4096).toNat) < digs.size) : ((digs[((x : Int) / 4096).toNat]'h).toNat : Int) = ((hx (x / 4096)).toNat : Int) := by
  have e : ((x : Int) / 4096).toNat = x / 4096 := by omega
  have := digs_at ⟨x / 4096, hx16⟩
  simp only [e]
  exact congrArg Nat.cast this
theorem rutf_any (B : Nat) (l : List UInt8) (v : Value) (p : Nat) (hp : p ≤ 1114111 ∧ (p < 55296 ∨ 57343 < p)) (w : World) (h : Own B l v w) (hlen : l.length + 4 ≤ 140737488355328) (hBw : B ≤ w.heap.size) :
    Calls Tryd.prog 72 #[v, .int .u32 p] w fun e w' => ∃ v', e = .returned v' ∧ Own B (l ++ Lib.encodeRune p) v' w' ∧ Below B w w' := by
  by_cases h1 : p < 128
  · exact rutf1_any B l v p h1 w h hlen hBw
  · by_cases h2 : p < 2048
    · exact rutf2_any B l v p ⟨by omega, h2⟩ w h hlen hBw
    · by_cases h3 : p < 65536
      · exact rutf3_any B l v p ⟨by omega, h3, hp.2⟩ w h hlen hBw
      · exact rutf4_any B l v p ⟨by omega, hp.1⟩ w h hlen hBw
theorem high_any (u : Nat) (w : World) (b : Bool) (hb : hiB u = b) : Calls Tryd.prog 70 #[.int .u16 u] w fun e w' => e = .returned (.bool b) ∧ w = w' := by
  subst hb
  go_enter Tryd.func70, Tryd.ntmps70
  go_wp2
  all_goals go_ret
  all_goals exact ⟨ret_bool (by rw [Bool.eq_iff_iff]; simp [hiB]; try omega), rfl⟩
theorem low_any (u : Nat) (w : World) (b : Bool) (hb : loB u = b) : Calls Tryd.prog 71 #[.int .u16 u] w fun e w' => e = .returned (.bool b) ∧ w = w' := by
  subst hb
  go_enter Tryd.func71, Tryd.ntmps71
  go_wp2
  all_goals go_ret
  all_goals exact ⟨ret_bool (by rw [Bool.eq_iff_iff]; simp [loB]; try omega), rfl⟩
theorem esc_own {B : Nat} {acc : List UInt8} {v : Value} {w : World} {u : Nat}
    (h : w.ownsRow B 5 1 v (acc.length + 6) (Lib.byteCells acc ++ [Value.int .u8 92, Value.int .u8 117, Value.int .u8 (hx (u / 4096)).toNat, Value.int .u8 (hx (u / 256 % 16)).toNat, Value.int .u8 (hx (u / 16 % 16)).toNat, Value.int .u8 (hx (u % 16)).toNat])) : Own B (acc ++ esc u) v w := by
  rw [Own, List.length_append, Lib.byteCells_append]
  exact h
theorem esc_below {B m n : Nat} {acc : List UInt8} {v : Value} {wr w9 : World} {o : Obj} (h : ((wr.drewN m).alloc o).grownBy w9 v.ownBlock) (hI : Own B acc v wr) (hB : B ≤ wr.heap.size) : Below B (wr.drewN n) w9 := by
  have h0 : Below B (wr.drewN n) (wr.drewN m) := ⟨rfl, rfl, rfl, Nat.le_refl _, fun _ _ => rfl⟩
  exact (h0.alloc hB o).grown h (by simp; omega) (fun j hj => (World.ownsRow.lt hI j hj).1)
set_option maxRecDepth 100000 in
set_option maxHeartbeats 40000000 in
theorem rencode_any (s : ByteArray) (w : World) (hs : s.size ≤ 17592186044416) :
    Calls Tryd.prog 18 #[.string s] w fun e w' => e = .returned (.string ⟨(encS s).toArray⟩) ∧ Below w.heap.size w w' := by
  obtain ⟨i0, hi, hz0, hz1, hz2⟩ := info_parts info5
  have hl := ln_le s
  have hm : ((ln s : Nat) : Int) ≤ 8796093022208 := by omega
  have H63 := Lib.hid (show s.size ≤ maxLen by unfold maxLen; omega)
  have HS := Lib.hid (show ln s ≤ 8796093022208 by omega)
  have c1 := fun W => rlen_any s W H63.out
  clear hs hl
  go_enter Tryd.func18, Tryd.ntmps18
  go_wp2
  go_loopw [3, 4] (fun v i wr => ∃ (k fuel : Nat) (acc : List UInt8), i = .int .i64 k ∧ k ≤ ln s ∧ Own w.heap.size acc v wr ∧ Below w.heap.size w wr ∧ acc ++ encF s fuel k = encS s ∧ ln s ≤ k + fuel ∧ acc.length ≤ 6 * k) (fun _ i _ => ln s - (intOf i).toNat)
  case atStart => exact ⟨0, ln s, [], rfl, Nat.zero_le _, Own.nil _ _, Below.refl _ _, rfl, by omega, by simp⟩
  case round =>
    obtain ⟨k, fuel, acc, rfl, hk, hI, hbw, hacc, hfu, hal⟩ := hrel
    have HA := Lib.hid hacc
    clear hacc
    by_cases hlt : k < ln s
    · obtain ⟨f, rfl⟩ : ∃ f, fuel = f + 1 := ⟨fuel - 1, by omega⟩
      have c2 := fun W => rat_any s k W hlt H63.out
      have hu := un_lt s k
      have hlt' : (k : Int) < (ln s : Int) := by omega
      have HL := Lib.hid (show acc.length + 6 ≤ 140737488355328 by have := HS.out; omega)
      cases hp : prB s k
      · have hEF := encF_one s f k hlt hp
        have HA2 := Lib.hid (show (acc ++ oneU (un s k)) ++ encF s f (k + 1) = encS s by rw [← HA.out, hEF, List.append_assoc])
        have hlen : (acc ++ oneU (un s k)).length ≤ 6 * (k + 1) := by rw [List.length_append]; have := oneU_le (un s k); omega
        have hor : hiB (un s k) = false ∨ (hiB (un s k) = true ∧ ¬ ((k : Int) + 1 < (ln s : Int))) ∨ (hiB (un s k) = true ∧ (k : Int) + 1 < (ln s : Int) ∧ loB (un s (k + 1)) = false) := by
          cases h1 : hiB (un s k)
          · exact .inl rfl
          · right
            by_cases h2 : k + 1 < ln s
            · right
              refine ⟨rfl, by omega, ?_⟩
              simpa [prB, h1, h2] using hp
            · left; exact ⟨rfl, by omega⟩
        clear HA hEF hp
        have HU := Lib.hid hu
        have HW := Lib.hid (show ((un s k : Nat) : Int) % 4294967296 = ((un s k : Nat) : Int) by omega)
        have fin : ∀ (n : Nat) (v' : Value) (w3 : World), Own w.heap.size (acc ++ oneU (un s k)) v' w3 → Below w.heap.size (wr.drewN n) w3 → ∃ (k2 fuel2 : Nat) (acc2 : List UInt8), Value.int .i64 ((k : Int) + 1) = .int .i64 k2 ∧ k2 ≤ ln s ∧ Own w.heap.size acc2 v' w3 ∧ Below w.heap.size w w3 ∧ acc2 ++ encF s fuel2 k2 = encS s ∧ ln s ≤ k2 + fuel2 ∧ acc2.length ≤ 6 * k2 :=
          fun n v' w3 h1 h2 => ⟨k + 1, f, _, by go_num, by omega, h1, (below_drewN' hbw n).trans h2, HA2.out, by omega, hlen⟩
        have FIN := Lib.hid fin
        clear fin
        rcases hor with h1 | ⟨h1, h2⟩ | ⟨h1, h2, h3⟩
        · have c3 := fun W => high_any (un s k) W false h1
          cases hlo : loB (un s k)
          · have c4 := fun W => low_any (un s k) W false hlo
            have hone : oneU (un s k) = Lib.encodeRune (un s k) := by unfold oneU; rw [h1, hlo]; rfl
            rw [hone] at FIN
            have hr := fun W v h hb => rutf_any w.heap.size acc v (un s k) (by simp [hiB] at h1; simp [loB] at hlo; omega) W h (by have := HL.out; omega) hb
            clear h1 hlo hone hlen HA2 hu
            go_wp2_with fail
            refine (c1 _).mono ?_
            rintro e w' ⟨rfl, rfl⟩
            go_wp2_with fail
            refine (c2 _).mono ?_
            rintro e w' ⟨rfl, n, rfl⟩
            go_wp2_with fail
            refine (c3 _).mono ?_
            rintro e w' ⟨rfl, rfl⟩
            go_wp2_with fail
            refine (c3 _).mono ?_
            rintro e w' ⟨rfl, rfl⟩
            go_wp2_with fail
            refine (c4 _).mono ?_
            rintro e w' ⟨rfl, rfl⟩
            go_wp2_with fail
            rw [HW.out]
            refine (hr _ _ (own_drewN hI n) (by have := hbw.size; simpa using this)).mono ?_
            rintro e w3 ⟨v3, rfl, hI3, hb3⟩
            go_wp2
            go_roundw
            case rel => exact FIN.out n _ _ hI3 hb3
            case measure => simp [intOf]; omega
          · have c4 := fun W => low_any (un s k) W true hlo
            have hone : oneU (un s k) = esc (un s k) := by unfold oneU; rw [h1, hlo]; rfl
            rw [hone] at FIN
            have a2 : bits BinOp.and IntKind.u16 (((un s k : Nat) : Int) / 256) 15 = (((un s k : Nat) : Int) / 256) % 16 := and_15 (un s k / 256) (by omega)
            have a3 : bits BinOp.and IntKind.u16 (((un s k : Nat) : Int) / 16) 15 = (((un s k : Nat) : Int) / 16) % 16 := and_15 (un s k / 16) (by omega)
            have a4 : bits BinOp.and IntKind.u16 ((un s k : Nat) : Int) 15 = ((un s k : Nat) : Int) % 16 := and_15 (un s k) hu
            have g1 : 0 ≤ ((un s k : Nat) : Int) / 4096 := by omega
            have g3 : 0 ≤ ((un s k : Nat) : Int) / 256 % 16 ∧ ((un s k : Nat) : Int) / 256 % 16 < 16 := by omega
            have g4 : 0 ≤ ((un s k : Nat) : Int) / 16 % 16 ∧ ((un s k : Nat) : Int) / 16 % 16 < 16 := by omega
            have g5 : 0 ≤ ((un s k : Nat) : Int) % 16 ∧ ((un s k : Nat) : Int) % 16 < 16 := by omega
            have HONE : ∀ u ∈ [Value.int .u8 92, Value.int .u8 117, Value.int .u8 (hx (un s k / 4096)).toNat, Value.int .u8 (hx (un s k / 256 % 16)).toNat, Value.int .u8 (hx (un s k / 16 % 16)).toNat, Value.int .u8 (hx (un s k % 16)).toNat], u.oneCell' = true := by simp [Value.oneCell']
            have HM63 : acc.length + 6 ≤ maxLen := by have := HL.out; unfold maxLen; omega
            have HBY : (acc.length + 6) * 1 ≤ 140737488355328 := by have := HL.out; omega
            have HBA : ∀ o, w.heap.size ≤ (wr.alloc o).heap.size := fun o => by have := hbw.size; simp; omega
            have HONE := Lib.hid HONE
            have HM63 := Lib.hid HM63
            have HBY := Lib.hid HBY
            have HBA := Lib.hid HBA
            obtain ⟨g31, g32⟩ := g3
            obtain ⟨g41, g42⟩ := g4
            obtain ⟨g51, g52⟩ := g5
            have e1 : ∀ h, ((digs[(((un s k : Nat) : Int) / 4096).toNat]'h).toNat : Int) = ((hx (un s k / 4096)).toNat : Int) := fun h => digs_int2 _ (by omega) h
            have e2 : ∀ h, ((digs[(((un s k : Nat) : Int) / 256 % 16).toNat]'h).toNat : Int) = ((hx (un s k / 256 % 16)).toNat : Int) := fun h => digs_int (un s k / 256) h
            have e3 : ∀ h, ((digs[(((un s k : Nat) : Int) / 16 % 16).toNat]'h).toNat : Int) = ((hx (un s k / 16 % 16)).toNat : Int) := fun h => digs_int (un s k / 16) h
            have e4 : ∀ h, ((digs[(((un s k : Nat) : Int) % 16).toNat]'h).toNat : Int) = ((hx (un s k % 16)).toNat : Int) := fun h => digs_int (un s k) h
            have g2 : ((un s k : Nat) : Int) / 4096 < 16 := by omega
            clear h1 hlo hone hlen HA2 hu
            go_wp2_with fail
            refine (c1 _).mono ?_
            rintro e w' ⟨rfl, rfl⟩
            go_wp2_with fail
            refine (c2 _).mono ?_
            rintro e w' ⟨rfl, n, rfl⟩
            go_wp2_with fail
            refine (c3 _).mono ?_
            rintro e w' ⟨rfl, rfl⟩
            go_wp2_with fail
            refine (c3 _).mono ?_
            rintro e w' ⟨rfl, rfl⟩
            go_wp2_with fail
            refine (c4 _).mono ?_
            rintro e w' ⟨rfl, rfl⟩
            go_wp2_with fail
            go_region_law (refine step_append_lies _ rfl (.tmp 52) (.tmp 67) 52 rfl w.heap.size 5 i0 (.int .u8 0) 1 1 Tryd.underlying52 hi hz0 hz1 hz2 rfl (by decide) _ acc.length (Lib.byteCells acc) (by simp [Act.eval]) (World.ownsRow.alloc hI _) ⟨wr.heap.size, 0, none⟩ 6 6 [Value.int .u8 92, Value.int .u8 117, Value.int .u8 (hx (un s k / 4096)).toNat, Value.int .u8 (hx (un s k / 256 % 16)).toNat, Value.int .u8 (hx (un s k / 16 % 16)).toNat, Value.int .u8 (hx (un s k % 16)).toNat] (by simp [Act.eval]) rfl (cells_new _ _ _) HONE.out (by decide) HM63.out HBY.out (HBA.out _) _ rfl ?_; intro g cap w9 hown hgrow _ _)
            all_goals
              go_wp2
              go_roundw
              case rel => exact FIN.out n _ _ (esc_own (by assumption)) (esc_below (by assumption) hI hbw.size)
              case measure => simp [intOf]; omega
        · have c3 := fun W => high_any (un s k) W true h1
          have hone : oneU (un s k) = esc (un s k) := by unfold oneU; rw [h1]; rfl
          rw [hone] at FIN
          have a2 : bits BinOp.and IntKind.u16 (((un s k : Nat) : Int) / 256) 15 = (((un s k : Nat) : Int) / 256) % 16 := and_15 (un s k / 256) (by omega)
          have a3 : bits BinOp.and IntKind.u16 (((un s k : Nat) : Int) / 16) 15 = (((un s k : Nat) : Int) / 16) % 16 := and_15 (un s k / 16) (by omega)
          have a4 : bits BinOp.and IntKind.u16 ((un s k : Nat) : Int) 15 = ((un s k : Nat) : Int) % 16 := and_15 (un s k) hu
          have g1 : 0 ≤ ((un s k : Nat) : Int) / 4096 := by omega
          have g3 : 0 ≤ ((un s k : Nat) : Int) / 256 % 16 ∧ ((un s k : Nat) : Int) / 256 % 16 < 16 := by omega
          have g4 : 0 ≤ ((un s k : Nat) : Int) / 16 % 16 ∧ ((un s k : Nat) : Int) / 16 % 16 < 16 := by omega
          have g5 : 0 ≤ ((un s k : Nat) : Int) % 16 ∧ ((un s k : Nat) : Int) % 16 < 16 := by omega
          have HONE : ∀ u ∈ [Value.int .u8 92, Value.int .u8 117, Value.int .u8 (hx (un s k / 4096)).toNat, Value.int .u8 (hx (un s k / 256 % 16)).toNat, Value.int .u8 (hx (un s k / 16 % 16)).toNat, Value.int .u8 (hx (un s k % 16)).toNat], u.oneCell' = true := by simp [Value.oneCell']
          have HM63 : acc.length + 6 ≤ maxLen := by have := HL.out; unfold maxLen; omega
          have HBY : (acc.length + 6) * 1 ≤ 140737488355328 := by have := HL.out; omega
          have HBA : ∀ o, w.heap.size ≤ (wr.alloc o).heap.size := fun o => by have := hbw.size; simp; omega
          have HONE := Lib.hid HONE
          have HM63 := Lib.hid HM63
          have HBY := Lib.hid HBY
          have HBA := Lib.hid HBA
          obtain ⟨g31, g32⟩ := g3
          obtain ⟨g41, g42⟩ := g4
          obtain ⟨g51, g52⟩ := g5
          have e1 : ∀ h, ((digs[(((un s k : Nat) : Int) / 4096).toNat]'h).toNat : Int) = ((hx (un s k / 4096)).toNat : Int) := fun h => digs_int2 _ (by omega) h
          have e2 : ∀ h, ((digs[(((un s k : Nat) : Int) / 256 % 16).toNat]'h).toNat : Int) = ((hx (un s k / 256 % 16)).toNat : Int) := fun h => digs_int (un s k / 256) h
          have e3 : ∀ h, ((digs[(((un s k : Nat) : Int) / 16 % 16).toNat]'h).toNat : Int) = ((hx (un s k / 16 % 16)).toNat : Int) := fun h => digs_int (un s k / 16) h
          have e4 : ∀ h, ((digs[(((un s k : Nat) : Int) % 16).toNat]'h).toNat : Int) = ((hx (un s k % 16)).toNat : Int) := fun h => digs_int (un s k) h
          have g2 : ((un s k : Nat) : Int) / 4096 < 16 := by omega
          clear h1 hone hlen HA2 hu
          go_wp2_with fail
          refine (c1 _).mono ?_
          rintro e w' ⟨rfl, rfl⟩
          go_wp2_with fail
          refine (c2 _).mono ?_
          rintro e w' ⟨rfl, n, rfl⟩
          go_wp2_with fail
          refine (c3 _).mono ?_
          rintro e w' ⟨rfl, rfl⟩
          go_wp2_with fail
          refine (c1 _).mono ?_
          rintro e w' ⟨rfl, rfl⟩
          go_wp2_with fail
          refine (c3 _).mono ?_
          rintro e w' ⟨rfl, rfl⟩
          go_wp2_with fail
          go_region_law (refine step_append_lies _ rfl (.tmp 52) (.tmp 67) 52 rfl w.heap.size 5 i0 (.int .u8 0) 1 1 Tryd.underlying52 hi hz0 hz1 hz2 rfl (by decide) _ acc.length (Lib.byteCells acc) (by simp [Act.eval]) (World.ownsRow.alloc hI _) ⟨wr.heap.size, 0, none⟩ 6 6 [Value.int .u8 92, Value.int .u8 117, Value.int .u8 (hx (un s k / 4096)).toNat, Value.int .u8 (hx (un s k / 256 % 16)).toNat, Value.int .u8 (hx (un s k / 16 % 16)).toNat, Value.int .u8 (hx (un s k % 16)).toNat] (by simp [Act.eval]) rfl (cells_new _ _ _) HONE.out (by decide) HM63.out HBY.out (HBA.out _) _ rfl ?_; intro g cap w9 hown hgrow _ _)
          all_goals
            go_wp2
            go_roundw
            case rel => exact FIN.out n _ _ (esc_own (by assumption)) (esc_below (by assumption) hI hbw.size)
            case measure => simp [intOf]; omega
        · have c3 := fun W => high_any (un s k) W true h1
          have hone : oneU (un s k) = esc (un s k) := by unfold oneU; rw [h1]; rfl
          rw [hone] at FIN
          have c4 : ∀ W, Calls Tryd.prog 69 #[.string s, .int .i64 ((k : Int) + 1)] W fun e w' => e = .returned (.int .u16 (un s (k + 1))) ∧ ∃ n, w' = W.drewN n := fun W => by
            rw [show ((k : Int) + 1) = ((k + 1 : Nat) : Int) by omega]; exact rat_any s (k + 1) W (by omega) H63.out
          have c5 := fun W => low_any (un s (k + 1)) W false h3
          have a2 : bits BinOp.and IntKind.u16 (((un s k : Nat) : Int) / 256) 15 = (((un s k : Nat) : Int) / 256) % 16 := and_15 (un s k / 256) (by omega)
          have a3 : bits BinOp.and IntKind.u16 (((un s k : Nat) : Int) / 16) 15 = (((un s k : Nat) : Int) / 16) % 16 := and_15 (un s k / 16) (by omega)
          have a4 : bits BinOp.and IntKind.u16 ((un s k : Nat) : Int) 15 = ((un s k : Nat) : Int) % 16 := and_15 (un s k) hu
          have g1 : 0 ≤ ((un s k : Nat) : Int) / 4096 := by omega
          have g3 : 0 ≤ ((un s k : Nat) : Int) / 256 % 16 ∧ ((un s k : Nat) : Int) / 256 % 16 < 16 := by omega
          have g4 : 0 ≤ ((un s k : Nat) : Int) / 16 % 16 ∧ ((un s k : Nat) : Int) / 16 % 16 < 16 := by omega
          have g5 : 0 ≤ ((un s k : Nat) : Int) % 16 ∧ ((un s k : Nat) : Int) % 16 < 16 := by omega
          have HONE : ∀ u ∈ [Value.int .u8 92, Value.int .u8 117, Value.int .u8 (hx (un s k / 4096)).toNat, Value.int .u8 (hx (un s k / 256 % 16)).toNat, Value.int .u8 (hx (un s k / 16 % 16)).toNat, Value.int .u8 (hx (un s k % 16)).toNat], u.oneCell' = true := by simp [Value.oneCell']
          have HM63 : acc.length + 6 ≤ maxLen := by have := HL.out; unfold maxLen; omega
          have HBY : (acc.length + 6) * 1 ≤ 140737488355328 := by have := HL.out; omega
          have HBA : ∀ o, w.heap.size ≤ (wr.alloc o).heap.size := fun o => by have := hbw.size; simp; omega
          have HONE := Lib.hid HONE
          have HM63 := Lib.hid HM63
          have HBY := Lib.hid HBY
          have HBA := Lib.hid HBA
          obtain ⟨g31, g32⟩ := g3
          obtain ⟨g41, g42⟩ := g4
          obtain ⟨g51, g52⟩ := g5
          have e1 : ∀ h, ((digs[(((un s k : Nat) : Int) / 4096).toNat]'h).toNat : Int) = ((hx (un s k / 4096)).toNat : Int) := fun h => digs_int2 _ (by omega) h
          have e2 : ∀ h, ((digs[(((un s k : Nat) : Int) / 256 % 16).toNat]'h).toNat : Int) = ((hx (un s k / 256 % 16)).toNat : Int) := fun h => digs_int (un s k / 256) h
          have e3 : ∀ h, ((digs[(((un s k : Nat) : Int) / 16 % 16).toNat]'h).toNat : Int) = ((hx (un s k / 16 % 16)).toNat : Int) := fun h => digs_int (un s k / 16) h
          have e4 : ∀ h, ((digs[(((un s k : Nat) : Int) % 16).toNat]'h).toNat : Int) = ((hx (un s k % 16)).toNat : Int) := fun h => digs_int (un s k) h
          have g2 : ((un s k : Nat) : Int) / 4096 < 16 := by omega
          clear h1 h3 hone hlen HA2 hu
          go_wp2_with fail
          refine (c1 _).mono ?_
          rintro e w' ⟨rfl, rfl⟩
          go_wp2_with fail
          refine (c2 _).mono ?_
          rintro e w' ⟨rfl, n, rfl⟩
          go_wp2_with fail
          refine (c3 _).mono ?_
          rintro e w' ⟨rfl, rfl⟩
          go_wp2_with fail
          refine (c1 _).mono ?_
          rintro e w' ⟨rfl, rfl⟩
          go_wp2_with fail
          refine (c4 _).mono ?_
          rintro e w' ⟨rfl, n2, rfl⟩
          go_wp2_with fail
          refine (c5 _).mono ?_
          rintro e w' ⟨rfl, rfl⟩
          go_wp2_with fail
          refine (c3 _).mono ?_
          rintro e w' ⟨rfl, rfl⟩
          go_wp2_with fail
          go_region_law (refine step_append_lies _ rfl (.tmp 52) (.tmp 67) 52 rfl w.heap.size 5 i0 (.int .u8 0) 1 1 Tryd.underlying52 hi hz0 hz1 hz2 rfl (by decide) _ acc.length (Lib.byteCells acc) (by simp [Act.eval]) (World.ownsRow.alloc hI _) ⟨wr.heap.size, 0, none⟩ 6 6 [Value.int .u8 92, Value.int .u8 117, Value.int .u8 (hx (un s k / 4096)).toNat, Value.int .u8 (hx (un s k / 256 % 16)).toNat, Value.int .u8 (hx (un s k / 16 % 16)).toNat, Value.int .u8 (hx (un s k % 16)).toNat] (by simp [Act.eval]) rfl (cells_new _ _ _) HONE.out (by decide) HM63.out HBY.out (HBA.out _) _ rfl ?_; intro g cap w9 hown hgrow _ _)
          all_goals
            go_wp2
            go_roundw
            case rel => exact FIN.out n _ _ (esc_own (by assumption)) (esc_below (by assumption) hI hbw.size)
            case measure => simp [intOf]; omega
      · have hpp := prB_parts s k hp
        have hhi : hiB (un s k) = true := by simp [hiB]; omega
        have hlo : loB (un s (k + 1)) = true := by simp [loB]; omega
        have c3 := fun W => high_any (un s k) W true hhi
        have c4 : ∀ W, Calls Tryd.prog 69 #[.string s, .int .i64 ((k : Int) + 1)] W fun e w' => e = .returned (.int .u16 (un s (k + 1))) ∧ ∃ n, w' = W.drewN n := fun W => by
          rw [show ((k : Int) + 1) = ((k + 1 : Nat) : Int) by omega]; exact rat_any s (k + 1) W hpp.1 H63.out
        have c5 := fun W => low_any (un s (k + 1)) W true hlo
        have h1' : (k : Int) + 1 < (ln s : Int) := by omega
        have hP := Lib.hid (show ((prP s k : Nat) : Int) = 65536 + (((un s k : Nat) : Int) - 55296) * 1024 + (((un s (k + 1) : Nat) : Int) - 56320) by unfold prP; omega)
        have hr : ∀ W v, Own w.heap.size acc v W → w.heap.size ≤ W.heap.size → Calls Tryd.prog 72 #[v, .int .u32 (65536 + (((un s k : Nat) : Int) - 55296) * 1024 + (((un s (k + 1) : Nat) : Int) - 56320))] W fun e w' => ∃ v', e = .returned v' ∧ Own w.heap.size (acc ++ Lib.encodeRune (prP s k)) v' w' ∧ Below w.heap.size W w' := fun W v h hb => by
          rw [← hP.out]
          exact rutf_any w.heap.size acc v (prP s k) (by unfold prP; omega) W h (by have := HL.out; omega) hb
        have HG := Lib.hid (show (acc ++ Lib.encodeRune (prP s k)) ++ encF s f (k + 2) = encS s by rw [← HA.out, encF_pair s f k hlt hp, List.append_assoc])
        have hlen : (acc ++ Lib.encodeRune (prP s k)).length ≤ 6 * (k + 2) := by rw [List.length_append]; have := enc_le (prP s k); omega
        clear HA hhi hlo hp
        go_wp2_with fail
        refine (c1 _).mono ?_
        rintro e w' ⟨rfl, rfl⟩
        go_wp2_with fail
        refine (c2 _).mono ?_
        rintro e w' ⟨rfl, n, rfl⟩
        go_wp2_with fail
        refine (c3 _).mono ?_
        rintro e w' ⟨rfl, rfl⟩
        go_wp2_with fail
        refine (c1 _).mono ?_
        rintro e w' ⟨rfl, rfl⟩
        go_wp2_with fail
        refine (c4 _).mono ?_
        rintro e w' ⟨rfl, n2, rfl⟩
        go_wp2_with fail
        refine (c5 _).mono ?_
        rintro e w' ⟨rfl, rfl⟩
        go_wp2_with fail
        refine (c4 _).mono ?_
        rintro e w' ⟨rfl, n3, rfl⟩
        go_wp2_with fail
        refine (hr _ _ (own_drewN hI (n + n2 + n3)) (by have := hbw.size; simpa using this)).mono ?_
        rintro e w3 ⟨v3, rfl, hI3, hb3⟩
        go_wp2
        go_roundw
        case rel => exact ⟨k + 2, f, acc ++ Lib.encodeRune (prP s k), by go_num, by omega, hI3, (below_drewN' hbw (n + n2 + n3)).trans hb3, HG.out, by omega, hlen⟩
        case measure => simp [intOf]; omega
    · have HZ := Lib.hid (show acc = encS s by rw [← HA.out, encF_end s fuel k hlt, List.append_nil])
      have hlt' : ¬ ((k : Int) < (ln s : Int)) := by omega
      have hcv := own_string hI
      clear HA
      go_wp2_with (go_at_call 29; refine (c1 _).mono ?_; rintro e w' ⟨rfl, rfl⟩)
      go_ret
      rw [← HZ.out]
      exact ⟨rfl, hbw⟩
set_option maxRecDepth 100000 in
theorem encodes_any (s : ByteArray) (w : World) (hs : s.size ≤ 17592186044416) (hT : Lib.Utf8Tabs 0 1 w) :
    Calls Tryd.prog 4 #[.string s] w fun e w' => e = .returned (.bool true) ∧ Below w.heap.size w w' := by
  have ha := fun W (hb : Below w.heap.size w W) => awake_any W (tabs_below hT (tabs_two hT) hb)
  have c1 := fun W => encode_any s W hs
  have c2 := fun W => rencode_any s W hs
  clear hT hs
  go_enter Tryd.func4, Tryd.ntmps4
  go_wp2_with fail
  refine (c1 _).mono ?_
  rintro e W1 ⟨rfl, b1⟩
  go_wp2_with fail
  refine (c2 _).mono ?_
  rintro e W2 ⟨rfl, b2⟩
  have B2 : Below w.heap.size w W2 := b1.trans (b2.mono b1.size)
  go_wp2_with (go_at_call 16; refine (ha _ B2).mono ?_; rintro e w' ⟨rfl, hb⟩)
  go_ret
  exact ⟨rfl, B2.trans (hb.mono B2.size)⟩
end Go.Proofs.YthnkidncjkhndaaDoor
