/-
  Contract of Parse of the reference.
-/
import Derived.Test.YtlabblkonkhmgaaDoorParse
import Derived.Test.YtlabblkonkhmgaaDoorTimes
import Derived.Test.YtlabblkonkhmgaaDoorTold
import Derived.Deep.RegionHeld3
namespace Go.Proofs.YtlabblkonkhmgaaDoor
open Go.RowKit
theorem timesOne (A : Option Addr) (n c g x : Nat) (l : List Nat) (N : Nat) (W : World) (hn : l.length = n) (hm : n ≤ 1024) (h : RW W W.heap.size A l) (g1 : RW W W.heap.size (some ⟨g, 0, none⟩) [x]) (hN : (wds (val l * x)).length = N) :
    Calls Tryd.prog 35 #[.slice A n c, .slice (some ⟨g, 0, none⟩) 1 1] W (Told (wds (val l * x)) N W) := by
  have := times_any A (some ⟨g, 0, none⟩) n c 1 1 l [x] W hn (by omega) h rfl (by omega) g1
  rw [show val [x] = x from by simp [val]] at this
  exact this.mono fun _ _ y => y.told hN
theorem plusOne (A : Option Addr) (n c g x : Nat) (l : List Nat) (N : Nat) (W : World) (hn : l.length = n) (hm : n ≤ 4096) (h : RW W W.heap.size A l) (g1 : RW W W.heap.size (some ⟨g, 0, none⟩) [x]) (hN : (wds (val l + x)).length = N) :
    Calls Tryd.prog 34 #[.slice A n c, .slice (some ⟨g, 0, none⟩) 1 1] W (Told (wds (val l + x)) N W) := by
  have := plus_any A (some ⟨g, 0, none⟩) n c 1 1 l [x] W hn (by omega) h rfl (by omega) g1
  rw [show val [x] = x from by simp [val]] at this
  exact this.mono fun _ _ y => y.told hN
theorem lit_new (W : World) (x : Nat) (hx : x < 4294967296) : RW (W.alloc (.cells #[.int .u32 (x : Int)] 42)) (W.alloc (.cells #[.int .u32 (x : Int)] 42)).heap.size (some ⟨W.heap.size, 0, none⟩) [x] := (lit_one W x hx).more (by simp)
theorem alloc_below {w W : World} (o : Obj) (h : Below w.heap.size w W) : Below w.heap.size w (W.alloc o) := h.alloc h.size _
set_option maxRecDepth 100000 in
set_option maxHeartbeats 1000000 in
theorem rparse_ok (s : ByteArray) (r : Nat) (w : World) (hs : s.size ≤ 4611686018427387903) (h2 : 2 ≤ r) (h36 : r ≤ 36) (hd : ∀ i, i < s.size → dgt (btn s i) < r) (h0 : 0 < s.size) :
    Calls Tryd.prog 10 #[.string s, .int .i64 r] w (NatPost (sv r s) w) := by
  have HD := Lib.hid hd
  have H2 := Lib.hid h2
  have H36 := Lib.hid h36
  have hr1 : ¬ (r : Int) < 2 := by omega
  have hr2 : ¬ (36 : Int) < (r : Int) := by omega
  have hs1 : (s.size : Int) ≤ 4611686018427387903 := by omega
  have hs0 : ((s.size : Int) == 0) = false := by rw [beq_eq_false_iff_ne]; omega
  have kr : IntKind.u32.wrap (r : Int) = (r : Int) := IntWalk.u32_in _ (by omega)
  clear hd hs h2 h36 h0
  go_enter Tryd.func10, Tryd.ntmps10
  go_wp2
  go_loopw [6] (fun iv wr => ∃ k : Nat, iv = .int .i64 (k : Nat) ∧ k ≤ s.size ∧ w = wr) (fun iv _ => s.size - (intOf iv).toNat)
  case atStart => exact ⟨0, rfl, Nat.zero_le _, rfl⟩
  case round =>
    obtain ⟨k, rfl, hk, rfl⟩ := hrel
    by_cases hlt : k < s.size
    · have C1 := Lib.hid (fun W => show Calls Tryd.prog 33 #[.int .u8 ((s[k]'hlt).toNat : Nat)] W fun e w' => e = .returned (.int .i64 (dgz (btn s k) : Nat)) ∧ W = w' from by
        rw [btn_eq s k hlt]; exact rdigit_any _ W (btn_lt s k))
      have hk1 : (k : Int) < (s.size : Int) := by omega
      have hd := HD.out k hlt
      rw [dgz_eq H36.out hd] at C1
      obtain ⟨d, hde⟩ : ∃ d, dgt (btn s k) = d := ⟨_, rfl⟩
      rw [hde] at C1 hd
      have a1 : ¬ (r : Int) ≤ (d : Int) := by omega
      clear hde hd
      go_wp2_with fail
      refine (C1.out _).mono ?_
      rintro e w' ⟨rfl, rfl⟩
      go_wp2
      go_roundw
      case rel => exact ⟨k + 1, by go_num, by omega, trivial⟩
      case measure => simp [intOf]; omega
    · have hks : k = s.size := by omega
      subst hks
      clear hlt hk
      go_wp2
      go_loopw [7, 8] (fun av iv wr => ∃ o : Nat, iv = .int .i64 (o : Nat) ∧ o ≤ s.size ∧ Hid (Sl wr wr.heap.size av (wds (pv r (fun i => dgt (btn s i)) o))) ∧ Hid (lngB (pv r (fun i => dgt (btn s i)) o) = false) ∧ Below w.heap.size w wr) (fun _ iv _ => s.size - (intOf iv).toNat)
      case atStart => exact ⟨0, rfl, Nat.zero_le _, Lib.hid (Sl.nil _ _ _), Lib.hid (lng_small (by simp [pv])), Below.refl _ _⟩
      case round =>
        obtain ⟨o, rfl, ho, HS, HL, hbw⟩ := hrel
        obtain ⟨V, hV⟩ : ∃ V, pv r (fun i => dgt (btn s i)) o = V := ⟨_, rfl⟩
        rw [hV] at HS HL
        have HV := Lib.hid hV
        obtain ⟨A0, c0, rfl, hc0, hr0⟩ := HS.out
        obtain ⟨L0, hL0⟩ : ∃ L, (wds V).length = L := ⟨_, rfl⟩
        have hle := lng_le' HL.out
        rw [hL0] at hc0 hle ⊢
        by_cases hlt : o < s.size
        · have hd := HD.out o hlt
          have hx1 : (o : Int) < (s.size : Int) := by omega
          have C1 := Lib.hid (fun W => show Calls Tryd.prog 33 #[.int .u8 ((s[o]'hlt).toNat : Nat)] W fun e w' => e = .returned (.int .i64 (dgt (btn s o) : Nat)) ∧ W = w' from by
            rw [btn_eq s o hlt, ← dgz_eq H36.out hd]; exact rdigit_any _ W (btn_lt s o))
          have hpv : pv r (fun i => dgt (btn s i)) (o + 1) = V * r + dgt (btn s o) := by rw [← hV]; rfl
          have hd36 := dgt_le (btn s o)
          obtain ⟨d, hde⟩ : ∃ d, dgt (btn s o) = d := ⟨_, rfl⟩
          rw [hde] at C1 hpv hd36
          have kd : IntKind.u32.wrap (d : Int) = (d : Int) := IntWalk.u32_in _ (by omega)
          obtain ⟨L1, hL1⟩ : ∃ L, (wds (V * r)).length = L := ⟨_, rfl⟩
          obtain ⟨L2, hL2⟩ : ∃ L, (wds (V * r + d)).length = L := ⟨_, rfl⟩
          have l1 : L1 ≤ 1025 := by
            have h1 := prod_len_sum' V r
            have h3 : (wds r).length ≤ 1 := wds_len_lt (by have := H36.out; omega)
            omega
          have l2 : L2 ≤ 1026 := by
            have h1 := sum_len_max' (V * r) d
            have h3 : (wds d).length ≤ 1 := wds_len_lt (by omega)
            omega
          have K1 := Lib.hid (fun W g (hb : Below wr.heap.size wr W) (g1 : RW W W.heap.size (some ⟨g, 0, none⟩) [r]) => show Calls Tryd.prog 35 #[.slice A0 L0 c0, .slice (some ⟨g, 0, none⟩) 1 1] W (Told (wds (V * r)) L1 W) from by
            have := timesOne A0 L0 c0 g r (wds V) L1 W hL0 hle (hr0.step hb) g1 (by rw [wds_val]; exact hL1)
            rw [wds_val] at this; exact this)
          have K2 := Lib.hid (fun W A2 c2 g (r2 : RW W W.heap.size A2 (wds (V * r))) (g1 : RW W W.heap.size (some ⟨g, 0, none⟩) [d]) => show Calls Tryd.prog 34 #[.slice A2 L1 c2, .slice (some ⟨g, 0, none⟩) 1 1] W (Told (wds (V * r + d)) L2 W) from by
            have := plusOne A2 L1 c2 g d (wds (V * r)) L2 W hL1 (by omega) r2 g1 (by rw [wds_val]; exact hL2)
            rw [wds_val] at this; exact this)
          have HLR := Lib.hid (fun W => lit_new W r (by have := H36.out; omega))
          have HLD := Lib.hid (fun W => lit_new W d (by omega))
          have HPV := Lib.hid hpv
          have HL2 := Lib.hid hL2
          clear hpv hL2
          clear hV hL0 hle hc0 hr0 hd hde hd36 hL1 l1
          go_wp2
          go_region_held3 (fun w' => True) (trivial) (first | (go_at_call 35; refine (K1.out _ _ (below_drewN' ((Below.refl _ _).alloc (Nat.le_refl _) _) 1) ((HLR.out wr).drewN 1)).mono ?_; rintro e w2 ⟨A2, c2, rfl, ⟨hc2, r2⟩, b2⟩) | (go_at_call 33; refine (C1.out _).mono ?_; rintro e w' ⟨rfl, rfl⟩) | (go_at_call 34; refine (K2.out _ _ _ _ (r2.step ((Below.refl _ _).alloc (Nat.le_refl _) _)) (HLD.out _)).mono ?_; rintro e w3 ⟨A3, c3, rfl, ⟨hc3, r3⟩, b3⟩))
          all_goals
            have B2 : Below w.heap.size w w2 := below_le (below_drewN' (hbw.alloc hbw.size _) 1) b2
            have B3 : Below w.heap.size w w3 := below_le (B2.alloc B2.size _) b3
            clear r2 b2 b3 B2 hc2 K1 K2
            have C5 := Lib.hid (rlong_any A3 L2 c3 (wds (V * r + d)) w3.heap.size w3 HL2.out hc3 (by omega) r3)
            rw [wds_val, ← HPV.out] at C5
            have HSL := Lib.hid (fun (w4 : World) (b4 : Below w3.heap.size w3 w4) => (⟨A3, c3, by rw [HL2.out], by rw [HL2.out]; exact hc3, r3.step b4⟩ : Sl w4 w4.heap.size (.slice A3 L2 c3) (wds (V * r + d))))
            have HB3 := Lib.hid B3
            clear r3 hc3 B3
            cases hl : lngB (pv r (fun i => dgt (btn s i)) (o + 1))
            · rw [hl] at C5
              have HLN := Lib.hid hl
              clear hl
              go_wp2_with fail
              refine C5.out.mono ?_
              rintro e w4 ⟨rfl, b4⟩
              have HS4 := Lib.hid (HSL.out w4 b4)
              have HB4 := Lib.hid (below_le HB3.out b4)
              clear b4 C5
              go_wp2
              go_roundw
              case rel => exact ⟨o + 1, by go_num, by omega, Lib.hid (by rw [HPV.out]; exact HS4.out), HLN, HB4.out⟩
              case measure => simp [intOf]; omega
            · rw [hl] at C5
              have HLN := Lib.hid (lng_mono' (v := sv r s) (pv_mono (by have := H2.out; omega) (by omega)) hl)
              clear hl
              go_wp2_with fail
              refine C5.out.mono ?_
              rintro e w4 ⟨rfl, b4⟩
              have HB4 := Lib.hid (below_le HB3.out b4)
              clear b4 C5
              go_wp2
              go_ret2
              exact NatPost.long HLN.out HB4.out
        · have hos : o = s.size := by omega
          have HF := Lib.hid (show NatPost (sv r s) w (.returned (.tuple #[.slice A0 L0 c0, .int .i64 0])) wr from by
            have e : V = sv r s := by rw [← HV.out, hos]; rfl
            rw [← e]
            exact NatPost.ok HL.out hL0.symm hc0 hr0 hbw)
          have b0 : ¬ (o : Int) < (s.size : Int) := by omega
          clear hos hlt hc0 hr0 hL0 hle hV
          go_wp2
          go_ret2
          exact HF.out
end Go.Proofs.YtlabblkonkhmgaaDoor
