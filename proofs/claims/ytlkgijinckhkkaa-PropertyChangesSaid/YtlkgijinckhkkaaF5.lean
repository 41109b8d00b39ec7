/-
  The reference's zero, callee, May, Check, IsFull of descriptors.
-/
import Derived.Test.YtlkgijinckhkkaaF4
namespace Go.Proofs.Ytlkgijinckhkkaa
open Go.RowKit
theorem fMay_kept (v : Val) (w : World) : Calls Try.prog 26 #[valV v] w fun e w' => e = .returned (.bool (mayB v)) ∧ Below w.heap.size w w' ∧ ∀ a u, w.cell? a = some u → w'.cell? a = some u := Kept.below (fMay_any v w)
def zeroB (v : Val) : Bool := v.vk == 0 && mayB v
def calleeB (v : Val) : Bool := mayB v && (v.vk == 0 || v.vk == 5)
def mayP (p : Prp) : Bool :=
  !(decide (p.ph < 0) || decide (63 < p.ph) || (hasB p.ph 9 && hasB p.ph 6)) &&
    !((!hasB p.ph 1 && !zeroB p.pv) || (!hasB p.ph 2 && !zeroB p.pg) || (!hasB p.ph 4 && !zeroB p.pt)) &&
    !((!hasB p.ph 8 && p.pw) || (!hasB p.ph 16 && p.pe) || (!hasB p.ph 32 && p.pc)) &&
    (mayB p.pv && calleeB p.pg && calleeB p.pt)
def fullB (p : Prp) : Bool := mayP p && (p.ph == 54 || p.ph == 57)
/-- A parameter's block, and what lay there as it lay. -/
structure S1 (w W : World) (p : Prp) : Prop where
  k : Blk W w.heap.size p
  l : w.heap.size < W.heap.size
  b : Below w.heap.size w W
theorem S1.new {w W1 : World} {p : Prp} (h : w.alloc (.cells (celP p) 26) = W1) : S1 w W1 p := by
  obtain ⟨a, b, c⟩ := blk_new h
  exact ⟨a, by omega, b⟩
theorem S1.step {w W W' : World} {p : Prp} (h : S1 w W p) (hb : Below W.heap.size W W') : S1 w W' p :=
  ⟨h.k.below hb h.l, Nat.lt_of_lt_of_le h.l hb.size, below_le h.b hb⟩
theorem S1.cs {w W : World} {p : Prp} (h : S1 w W p) : W.cell? ⟨w.heap.size, 0, none⟩ = some (.int .i64 p.ph) ∧ W.cell? ⟨w.heap.size, 16, none⟩ = some (.bool p.pw) ∧ W.cell? ⟨w.heap.size, 17, none⟩ = some (.bool p.pe) ∧ W.cell? ⟨w.heap.size, 18, none⟩ = some (.bool p.pc) :=
  ⟨h.k.cell rfl, h.k.cell rfl, h.k.cell rfl, h.k.cell rfl⟩
set_option maxRecDepth 100000 in
set_option maxHeartbeats 1000000 in
theorem hzero_any (v : Val) (w : World) : Calls Try.prog 25 #[valV v] w fun e w' => e = .returned (.bool (zeroB v)) ∧ Below w.heap.size w w' := by
  have C1 := Lib.hid (fun W => fMay_any v W)
  unfold zeroB
  obtain ⟨M, hM⟩ : ∃ b, mayB v = b := ⟨_, rfl⟩
  obtain ⟨K, hK⟩ : ∃ b, (v.vk == 0) = b := ⟨_, rfl⟩
  rw [hM] at C1 ⊢
  rw [hK]
  clear hM
  unfold valV at C1 ⊢
  cases K
  · clear C1
    go_enter Try.func25, Try.ntmps25
    go_wp2
    go_ret
    exact ⟨by simp, below_a1 _ _⟩
  · skip
    go_enter Try.func25, Try.ntmps25
    go_wp2_with fail
    refine (C1.out _).mono ?_
    rintro e w2 ⟨rfl, b2⟩
    go_wp2
    go_ret
    exact ⟨by simp, below_le (below_a1 _ _) b2⟩
set_option maxRecDepth 100000 in
set_option maxHeartbeats 1000000 in
theorem hcallee_any (v : Val) (w : World) : Calls Try.prog 27 #[valV v] w fun e w' => e = .returned (.bool (calleeB v)) ∧ Below w.heap.size w w' := by
  have C1 := Lib.hid (fun W => fMay_kept v W)
  unfold calleeB
  obtain ⟨M, hM⟩ : ∃ b, mayB v = b := ⟨_, rfl⟩
  obtain ⟨K, hK⟩ : ∃ b, (v.vk == 0) = b := ⟨_, rfl⟩
  obtain ⟨J, hJ⟩ : ∃ b, (v.vk == 5) = b := ⟨_, rfl⟩
  rw [hM] at C1 ⊢
  rw [hK, hJ]
  clear hM
  unfold valV at C1 ⊢
  cases M
  · skip
    go_enter Try.func27, Try.ntmps27
    go_wp2_with fail
    refine (C1.out _).mono ?_
    rintro e w2 ⟨rfl, b2, hk⟩
    go_wp2
    go_ret
    exact ⟨by simp, below_le (below_a1 _ _) b2⟩
  · skip
    go_enter Try.func27, Try.ntmps27
    go_wp2_with fail
    refine (C1.out _).mono ?_
    rintro e w2 ⟨rfl, b2, hk⟩
    have k0 := hk ⟨w.heap.size, 0, none⟩ (.int .i64 v.vk) (by simp)
    have B2 := Lib.hid (below_le (below_a1 _ _) b2)
    clear hk b2
    cases K
    · go_wp2
      go_ret
      exact ⟨by simp, B2.out⟩
    · go_wp2
      go_ret
      exact ⟨by simp, B2.out⟩
set_option maxRecDepth 100000 in
set_option maxHeartbeats 1000000 in
theorem hMay_any (p : Prp) (w : World) : Calls Try.prog 8 #[prpV p] w fun e w' => e = .returned (.bool (mayP p)) ∧ Below w.heap.size w w' := by
  have C9 := fun W => hhas_any p 9 W
  have C6 := fun W => hhas_any p 6 W
  have C1 := fun W => hhas_any p 1 W
  have C2 := fun W => hhas_any p 2 W
  have C4 := fun W => hhas_any p 4 W
  have C8 := fun W => hhas_any p 8 W
  have C16 := fun W => hhas_any p 16 W
  have C32 := fun W => hhas_any p 32 W
  have Z1 := fun W => hzero_any p.pv W
  have Z2 := fun W => hzero_any p.pg W
  have Z3 := fun W => hzero_any p.pt W
  have M1 := fun W => fMay_any p.pv W
  have G2 := fun W => hcallee_any p.pg W
  have G3 := fun W => hcallee_any p.pt W
  unfold mayP
  obtain ⟨n0, e_n0⟩ : ∃ b, decide (p.ph < 0) = b := ⟨_, rfl⟩
  obtain ⟨n63, e_n63⟩ : ∃ b, decide (63 < p.ph) = b := ⟨_, rfl⟩
  obtain ⟨h9, e_h9⟩ : ∃ b, hasB p.ph 9 = b := ⟨_, rfl⟩
  obtain ⟨h6, e_h6⟩ : ∃ b, hasB p.ph 6 = b := ⟨_, rfl⟩
  obtain ⟨h1, e_h1⟩ : ∃ b, hasB p.ph 1 = b := ⟨_, rfl⟩
  obtain ⟨h2, e_h2⟩ : ∃ b, hasB p.ph 2 = b := ⟨_, rfl⟩
  obtain ⟨h4, e_h4⟩ : ∃ b, hasB p.ph 4 = b := ⟨_, rfl⟩
  obtain ⟨h8, e_h8⟩ : ∃ b, hasB p.ph 8 = b := ⟨_, rfl⟩
  obtain ⟨h16, e_h16⟩ : ∃ b, hasB p.ph 16 = b := ⟨_, rfl⟩
  obtain ⟨h32, e_h32⟩ : ∃ b, hasB p.ph 32 = b := ⟨_, rfl⟩
  obtain ⟨z1, e_z1⟩ : ∃ b, zeroB p.pv = b := ⟨_, rfl⟩
  obtain ⟨z2, e_z2⟩ : ∃ b, zeroB p.pg = b := ⟨_, rfl⟩
  obtain ⟨z3, e_z3⟩ : ∃ b, zeroB p.pt = b := ⟨_, rfl⟩
  obtain ⟨b8, e_b8⟩ : ∃ b, p.pw = b := ⟨_, rfl⟩
  obtain ⟨b16, e_b16⟩ : ∃ b, p.pe = b := ⟨_, rfl⟩
  obtain ⟨b32, e_b32⟩ : ∃ b, p.pc = b := ⟨_, rfl⟩
  obtain ⟨m1, e_m1⟩ : ∃ b, mayB p.pv = b := ⟨_, rfl⟩
  obtain ⟨g2, e_g2⟩ : ∃ b, calleeB p.pg = b := ⟨_, rfl⟩
  obtain ⟨g3, e_g3⟩ : ∃ b, calleeB p.pt = b := ⟨_, rfl⟩
  rw [e_h9] at C9
  rw [e_h6] at C6
  rw [e_h1] at C1
  rw [e_h2] at C2
  rw [e_h4] at C4
  rw [e_h8] at C8
  rw [e_h16] at C16
  rw [e_h32] at C32
  rw [e_z1] at Z1
  rw [e_z2] at Z2
  rw [e_z3] at Z3
  rw [e_m1] at M1
  rw [e_g2] at G2
  rw [e_g3] at G3
  rw [e_n0, e_n63, e_h9, e_h6, e_h1, e_h2, e_h4, e_h8, e_h16, e_h32, e_z1, e_z2, e_z3, e_b8, e_b16, e_b32, e_m1, e_g2, e_g3]
  have C9 := Lib.hid C9
  have C6 := Lib.hid C6
  have C1 := Lib.hid C1
  have C2 := Lib.hid C2
  have C4 := Lib.hid C4
  have C8 := Lib.hid C8
  have C16 := Lib.hid C16
  have C32 := Lib.hid C32
  have Z1 := Lib.hid Z1
  have Z2 := Lib.hid Z2
  have Z3 := Lib.hid Z3
  have M1 := Lib.hid M1
  have G2 := Lib.hid G2
  have G3 := Lib.hid G3
  clear e_h9 e_h6 e_h1 e_h2 e_h4 e_h8 e_h16 e_h32 e_z1 e_z2 e_z3 e_m1 e_g2 e_g3
  obtain ⟨R1, h_R1⟩ : ∃ b, (n0 || n63 || (h9 && h6)) = b := ⟨_, rfl⟩
  obtain ⟨R3, h_R3⟩ : ∃ b, ((!h1 && !z1) || (!h2 && !z2) || (!h4 && !z3)) = b := ⟨_, rfl⟩
  obtain ⟨R5, h_R5⟩ : ∃ b, ((!h8 && b8) || (!h16 && b16) || (!h32 && b32)) = b := ⟨_, rfl⟩
  obtain ⟨R7, h_R7⟩ : ∃ b, (m1 && g2 && g3) = b := ⟨_, rfl⟩
  rw [h_R1, h_R3, h_R5, h_R7]
  have H1 := Lib.hid h_R1
  have H3 := Lib.hid h_R3
  have H5 := Lib.hid h_R5
  have H7 := Lib.hid h_R7
  clear h_R1 h_R3 h_R5 h_R7
  unfold prpV at C9 C6 C1 C2 C4 C8 C16 C32 ⊢
  go_enter Try.func8, Try.ntmps8
  go_upto_region 1 with fail
  obtain ⟨W1, hW1⟩ : ∃ W1, w.alloc (.cells (celP p) 26) = W1 := ⟨_, rfl⟩
  have HS := Lib.hid (S1.new hW1)
  obtain ⟨c0, c16, c17, c18⟩ := HS.out.cs
  rw [hW1]
  clear hW1
  go_cut [18] (fun c wx => c = .bool R1 ∧ S1 w wx p)
  case first =>
    cases n0
    · skip
      cases n63
      · skip
        cases h9
        · skip
          go_wp2_with (first | (refine ldP (k := 12) HS.out.k rfl (by kernel_rfl) rfl rfl ?_))
          with_reducible refine (C9.out _).mono ?_
          rintro e w2 ⟨rfl, b2⟩
          have HT := HS; clear HS
          have HS := Lib.hid (HT.out.step b2)
          clear HT b2 c0 c16 c17 c18
          obtain ⟨c0, c16, c17, c18⟩ := HS.out.cs
          go_wp2
          go_meet
          case rel => exact ⟨by rw [← H1.out]; rfl, HS.out⟩
        · skip
          go_wp2_with (first | (refine ldP (k := 12) HS.out.k rfl (by kernel_rfl) rfl rfl ?_))
          with_reducible refine (C9.out _).mono ?_
          rintro e w2 ⟨rfl, b2⟩
          have HT := HS; clear HS
          have HS := Lib.hid (HT.out.step b2)
          clear HT b2 c0 c16 c17 c18
          obtain ⟨c0, c16, c17, c18⟩ := HS.out.cs
          cases h6
          · skip
            go_wp2_with (first | (refine ldP (k := 15) HS.out.k rfl (by kernel_rfl) rfl rfl ?_))
            with_reducible refine (C6.out _).mono ?_
            rintro e w2 ⟨rfl, b2⟩
            have HT := HS; clear HS
            have HS := Lib.hid (HT.out.step b2)
            clear HT b2 c0 c16 c17 c18
            obtain ⟨c0, c16, c17, c18⟩ := HS.out.cs
            go_wp2
            go_meet
            case rel => exact ⟨by rw [← H1.out]; rfl, HS.out⟩
          · skip
            go_wp2_with (first | (refine ldP (k := 15) HS.out.k rfl (by kernel_rfl) rfl rfl ?_))
            with_reducible refine (C6.out _).mono ?_
            rintro e w2 ⟨rfl, b2⟩
            have HT := HS; clear HS
            have HS := Lib.hid (HT.out.step b2)
            clear HT b2 c0 c16 c17 c18
            obtain ⟨c0, c16, c17, c18⟩ := HS.out.cs
            go_wp2
            go_meet
            case rel => exact ⟨by rw [← H1.out]; rfl, HS.out⟩
      · skip
        go_wp2
        go_meet
        case rel => exact ⟨by rw [← H1.out]; rfl, HS.out⟩
    · skip
      go_wp2
      go_meet
      case rel => exact ⟨by rw [← H1.out]; rfl, HS.out⟩
  case rest =>
  clear HS c0 c16 c17 c18
  obtain ⟨rfl, hs⟩ := hcut
  have HS := Lib.hid hs
  clear hs
  obtain ⟨c0, c16, c17, c18⟩ := HS.out.cs
  cases R1
  case true =>
    go_wp2
    go_ret
    exact ⟨by simp, HS.out.b⟩
  case false =>
  go_upto_region 3 with fail
  go_cut [49] (fun c wx => c = .bool R3 ∧ S1 w wx p)
  case first =>
    cases h1
    · skip
      go_wp2_with (first | (refine ldP (k := 19) HS.out.k rfl (by kernel_rfl) rfl rfl ?_))
      with_reducible refine (C1.out _).mono ?_
      rintro e w2 ⟨rfl, b2⟩
      have HT := HS; clear HS
      have HS := Lib.hid (HT.out.step b2)
      clear HT b2 c0 c16 c17 c18
      obtain ⟨c0, c16, c17, c18⟩ := HS.out.cs
      cases z1
      · skip
        go_wp2_with (first | (refine ldV (k := 24) (off := 1) (v := p.pv) HS.out.k rfl rfl (by omega) (by kernel_rfl) rfl rfl ?_))
        with_reducible refine (Z1.out _).mono ?_
        rintro e w2 ⟨rfl, b2⟩
        have HT := HS; clear HS
        have HS := Lib.hid (HT.out.step b2)
        clear HT b2 c0 c16 c17 c18
        obtain ⟨c0, c16, c17, c18⟩ := HS.out.cs
        go_wp2
        go_meet
        case rel => exact ⟨by rw [← H3.out]; rfl, HS.out⟩
      · skip
        go_wp2_with (first | (refine ldV (k := 24) (off := 1) (v := p.pv) HS.out.k rfl rfl (by omega) (by kernel_rfl) rfl rfl ?_))
        with_reducible refine (Z1.out _).mono ?_
        rintro e w2 ⟨rfl, b2⟩
        have HT := HS; clear HS
        have HS := Lib.hid (HT.out.step b2)
        clear HT b2 c0 c16 c17 c18
        obtain ⟨c0, c16, c17, c18⟩ := HS.out.cs
        cases h2
        · skip
          go_wp2_with (first | (refine ldP (k := 29) HS.out.k rfl (by kernel_rfl) rfl rfl ?_))
          with_reducible refine (C2.out _).mono ?_
          rintro e w2 ⟨rfl, b2⟩
          have HT := HS; clear HS
          have HS := Lib.hid (HT.out.step b2)
          clear HT b2 c0 c16 c17 c18
          obtain ⟨c0, c16, c17, c18⟩ := HS.out.cs
          cases z2
          · skip
            go_wp2_with (first | (refine ldV (k := 34) (off := 6) (v := p.pg) HS.out.k rfl rfl (by omega) (by kernel_rfl) rfl rfl ?_))
            with_reducible refine (Z2.out _).mono ?_
            rintro e w2 ⟨rfl, b2⟩
            have HT := HS; clear HS
            have HS := Lib.hid (HT.out.step b2)
            clear HT b2 c0 c16 c17 c18
            obtain ⟨c0, c16, c17, c18⟩ := HS.out.cs
            go_wp2
            go_meet
            case rel => exact ⟨by rw [← H3.out]; rfl, HS.out⟩
          · skip
            go_wp2_with (first | (refine ldV (k := 34) (off := 6) (v := p.pg) HS.out.k rfl rfl (by omega) (by kernel_rfl) rfl rfl ?_))
            with_reducible refine (Z2.out _).mono ?_
            rintro e w2 ⟨rfl, b2⟩
            have HT := HS; clear HS
            have HS := Lib.hid (HT.out.step b2)
            clear HT b2 c0 c16 c17 c18
            obtain ⟨c0, c16, c17, c18⟩ := HS.out.cs
            cases h4
            · skip
              go_wp2_with (first | (refine ldP (k := 40) HS.out.k rfl (by kernel_rfl) rfl rfl ?_))
              with_reducible refine (C4.out _).mono ?_
              rintro e w2 ⟨rfl, b2⟩
              have HT := HS; clear HS
              have HS := Lib.hid (HT.out.step b2)
              clear HT b2 c0 c16 c17 c18
              obtain ⟨c0, c16, c17, c18⟩ := HS.out.cs
              cases z3
              · skip
                go_wp2_with (first | (refine ldV (k := 45) (off := 11) (v := p.pt) HS.out.k rfl rfl (by omega) (by kernel_rfl) rfl rfl ?_))
                with_reducible refine (Z3.out _).mono ?_
                rintro e w2 ⟨rfl, b2⟩
                have HT := HS; clear HS
                have HS := Lib.hid (HT.out.step b2)
                clear HT b2 c0 c16 c17 c18
                obtain ⟨c0, c16, c17, c18⟩ := HS.out.cs
                go_wp2
                go_meet
                case rel => exact ⟨by rw [← H3.out]; rfl, HS.out⟩
              · skip
                go_wp2_with (first | (refine ldV (k := 45) (off := 11) (v := p.pt) HS.out.k rfl rfl (by omega) (by kernel_rfl) rfl rfl ?_))
                with_reducible refine (Z3.out _).mono ?_
                rintro e w2 ⟨rfl, b2⟩
                have HT := HS; clear HS
                have HS := Lib.hid (HT.out.step b2)
                clear HT b2 c0 c16 c17 c18
                obtain ⟨c0, c16, c17, c18⟩ := HS.out.cs
                go_wp2
                go_meet
                case rel => exact ⟨by rw [← H3.out]; rfl, HS.out⟩
            · skip
              go_wp2_with (first | (refine ldP (k := 40) HS.out.k rfl (by kernel_rfl) rfl rfl ?_))
              with_reducible refine (C4.out _).mono ?_
              rintro e w2 ⟨rfl, b2⟩
              have HT := HS; clear HS
              have HS := Lib.hid (HT.out.step b2)
              clear HT b2 c0 c16 c17 c18
              obtain ⟨c0, c16, c17, c18⟩ := HS.out.cs
              go_wp2
              go_meet
              case rel => exact ⟨by rw [← H3.out]; rfl, HS.out⟩
        · skip
          go_wp2_with (first | (refine ldP (k := 29) HS.out.k rfl (by kernel_rfl) rfl rfl ?_))
          with_reducible refine (C2.out _).mono ?_
          rintro e w2 ⟨rfl, b2⟩
          have HT := HS; clear HS
          have HS := Lib.hid (HT.out.step b2)
          clear HT b2 c0 c16 c17 c18
          obtain ⟨c0, c16, c17, c18⟩ := HS.out.cs
          cases h4
          · skip
            go_wp2_with (first | (refine ldP (k := 40) HS.out.k rfl (by kernel_rfl) rfl rfl ?_))
            with_reducible refine (C4.out _).mono ?_
            rintro e w2 ⟨rfl, b2⟩
            have HT := HS; clear HS
            have HS := Lib.hid (HT.out.step b2)
            clear HT b2 c0 c16 c17 c18
            obtain ⟨c0, c16, c17, c18⟩ := HS.out.cs
            cases z3
            · skip
              go_wp2_with (first | (refine ldV (k := 45) (off := 11) (v := p.pt) HS.out.k rfl rfl (by omega) (by kernel_rfl) rfl rfl ?_))
              with_reducible refine (Z3.out _).mono ?_
              rintro e w2 ⟨rfl, b2⟩
              have HT := HS; clear HS
              have HS := Lib.hid (HT.out.step b2)
              clear HT b2 c0 c16 c17 c18
              obtain ⟨c0, c16, c17, c18⟩ := HS.out.cs
              go_wp2
              go_meet
              case rel => exact ⟨by rw [← H3.out]; rfl, HS.out⟩
            · skip
              go_wp2_with (first | (refine ldV (k := 45) (off := 11) (v := p.pt) HS.out.k rfl rfl (by omega) (by kernel_rfl) rfl rfl ?_))
              with_reducible refine (Z3.out _).mono ?_
              rintro e w2 ⟨rfl, b2⟩
              have HT := HS; clear HS
              have HS := Lib.hid (HT.out.step b2)
              clear HT b2 c0 c16 c17 c18
              obtain ⟨c0, c16, c17, c18⟩ := HS.out.cs
              go_wp2
              go_meet
              case rel => exact ⟨by rw [← H3.out]; rfl, HS.out⟩
          · skip
            go_wp2_with (first | (refine ldP (k := 40) HS.out.k rfl (by kernel_rfl) rfl rfl ?_))
            with_reducible refine (C4.out _).mono ?_
            rintro e w2 ⟨rfl, b2⟩
            have HT := HS; clear HS
            have HS := Lib.hid (HT.out.step b2)
            clear HT b2 c0 c16 c17 c18
            obtain ⟨c0, c16, c17, c18⟩ := HS.out.cs
            go_wp2
            go_meet
            case rel => exact ⟨by rw [← H3.out]; rfl, HS.out⟩
    · skip
      go_wp2_with (first | (refine ldP (k := 19) HS.out.k rfl (by kernel_rfl) rfl rfl ?_))
      with_reducible refine (C1.out _).mono ?_
      rintro e w2 ⟨rfl, b2⟩
      have HT := HS; clear HS
      have HS := Lib.hid (HT.out.step b2)
      clear HT b2 c0 c16 c17 c18
      obtain ⟨c0, c16, c17, c18⟩ := HS.out.cs
      cases h2
      · skip
        go_wp2_with (first | (refine ldP (k := 29) HS.out.k rfl (by kernel_rfl) rfl rfl ?_))
        with_reducible refine (C2.out _).mono ?_
        rintro e w2 ⟨rfl, b2⟩
        have HT := HS; clear HS
        have HS := Lib.hid (HT.out.step b2)
        clear HT b2 c0 c16 c17 c18
        obtain ⟨c0, c16, c17, c18⟩ := HS.out.cs
        cases z2
        · skip
          go_wp2_with (first | (refine ldV (k := 34) (off := 6) (v := p.pg) HS.out.k rfl rfl (by omega) (by kernel_rfl) rfl rfl ?_))
          with_reducible refine (Z2.out _).mono ?_
          rintro e w2 ⟨rfl, b2⟩
          have HT := HS; clear HS
          have HS := Lib.hid (HT.out.step b2)
          clear HT b2 c0 c16 c17 c18
          obtain ⟨c0, c16, c17, c18⟩ := HS.out.cs
          go_wp2
          go_meet
          case rel => exact ⟨by rw [← H3.out]; rfl, HS.out⟩
        · skip
          go_wp2_with (first | (refine ldV (k := 34) (off := 6) (v := p.pg) HS.out.k rfl rfl (by omega) (by kernel_rfl) rfl rfl ?_))
          with_reducible refine (Z2.out _).mono ?_
          rintro e w2 ⟨rfl, b2⟩
          have HT := HS; clear HS
          have HS := Lib.hid (HT.out.step b2)
          clear HT b2 c0 c16 c17 c18
          obtain ⟨c0, c16, c17, c18⟩ := HS.out.cs
          cases h4
          · skip
            go_wp2_with (first | (refine ldP (k := 40) HS.out.k rfl (by kernel_rfl) rfl rfl ?_))
            with_reducible refine (C4.out _).mono ?_
            rintro e w2 ⟨rfl, b2⟩
            have HT := HS; clear HS
            have HS := Lib.hid (HT.out.step b2)
            clear HT b2 c0 c16 c17 c18
            obtain ⟨c0, c16, c17, c18⟩ := HS.out.cs
            cases z3
            · skip
              go_wp2_with (first | (refine ldV (k := 45) (off := 11) (v := p.pt) HS.out.k rfl rfl (by omega) (by kernel_rfl) rfl rfl ?_))
              with_reducible refine (Z3.out _).mono ?_
              rintro e w2 ⟨rfl, b2⟩
              have HT := HS; clear HS
              have HS := Lib.hid (HT.out.step b2)
              clear HT b2 c0 c16 c17 c18
              obtain ⟨c0, c16, c17, c18⟩ := HS.out.cs
              go_wp2
              go_meet
              case rel => exact ⟨by rw [← H3.out]; rfl, HS.out⟩
            · skip
              go_wp2_with (first | (refine ldV (k := 45) (off := 11) (v := p.pt) HS.out.k rfl rfl (by omega) (by kernel_rfl) rfl rfl ?_))
              with_reducible refine (Z3.out _).mono ?_
              rintro e w2 ⟨rfl, b2⟩
              have HT := HS; clear HS
              have HS := Lib.hid (HT.out.step b2)
              clear HT b2 c0 c16 c17 c18
              obtain ⟨c0, c16, c17, c18⟩ := HS.out.cs
              go_wp2
              go_meet
              case rel => exact ⟨by rw [← H3.out]; rfl, HS.out⟩
          · skip
            go_wp2_with (first | (refine ldP (k := 40) HS.out.k rfl (by kernel_rfl) rfl rfl ?_))
            with_reducible refine (C4.out _).mono ?_
            rintro e w2 ⟨rfl, b2⟩
            have HT := HS; clear HS
            have HS := Lib.hid (HT.out.step b2)
            clear HT b2 c0 c16 c17 c18
            obtain ⟨c0, c16, c17, c18⟩ := HS.out.cs
            go_wp2
            go_meet
            case rel => exact ⟨by rw [← H3.out]; rfl, HS.out⟩
      · skip
        go_wp2_with (first | (refine ldP (k := 29) HS.out.k rfl (by kernel_rfl) rfl rfl ?_))
        with_reducible refine (C2.out _).mono ?_
        rintro e w2 ⟨rfl, b2⟩
        have HT := HS; clear HS
        have HS := Lib.hid (HT.out.step b2)
        clear HT b2 c0 c16 c17 c18
        obtain ⟨c0, c16, c17, c18⟩ := HS.out.cs
        cases h4
        · skip
          go_wp2_with (first | (refine ldP (k := 40) HS.out.k rfl (by kernel_rfl) rfl rfl ?_))
          with_reducible refine (C4.out _).mono ?_
          rintro e w2 ⟨rfl, b2⟩
          have HT := HS; clear HS
          have HS := Lib.hid (HT.out.step b2)
          clear HT b2 c0 c16 c17 c18
          obtain ⟨c0, c16, c17, c18⟩ := HS.out.cs
          cases z3
          · skip
            go_wp2_with (first | (refine ldV (k := 45) (off := 11) (v := p.pt) HS.out.k rfl rfl (by omega) (by kernel_rfl) rfl rfl ?_))
            with_reducible refine (Z3.out _).mono ?_
            rintro e w2 ⟨rfl, b2⟩
            have HT := HS; clear HS
            have HS := Lib.hid (HT.out.step b2)
            clear HT b2 c0 c16 c17 c18
            obtain ⟨c0, c16, c17, c18⟩ := HS.out.cs
            go_wp2
            go_meet
            case rel => exact ⟨by rw [← H3.out]; rfl, HS.out⟩
          · skip
            go_wp2_with (first | (refine ldV (k := 45) (off := 11) (v := p.pt) HS.out.k rfl rfl (by omega) (by kernel_rfl) rfl rfl ?_))
            with_reducible refine (Z3.out _).mono ?_
            rintro e w2 ⟨rfl, b2⟩
            have HT := HS; clear HS
            have HS := Lib.hid (HT.out.step b2)
            clear HT b2 c0 c16 c17 c18
            obtain ⟨c0, c16, c17, c18⟩ := HS.out.cs
            go_wp2
            go_meet
            case rel => exact ⟨by rw [← H3.out]; rfl, HS.out⟩
        · skip
          go_wp2_with (first | (refine ldP (k := 40) HS.out.k rfl (by kernel_rfl) rfl rfl ?_))
          with_reducible refine (C4.out _).mono ?_
          rintro e w2 ⟨rfl, b2⟩
          have HT := HS; clear HS
          have HS := Lib.hid (HT.out.step b2)
          clear HT b2 c0 c16 c17 c18
          obtain ⟨c0, c16, c17, c18⟩ := HS.out.cs
          go_wp2
          go_meet
          case rel => exact ⟨by rw [← H3.out]; rfl, HS.out⟩
  case rest =>
  clear HS c0 c16 c17 c18
  obtain ⟨rfl, hs⟩ := hcut
  have HS := Lib.hid hs
  clear hs
  obtain ⟨c0, c16, c17, c18⟩ := HS.out.cs
  cases R3
  case true =>
    go_wp2
    go_ret
    exact ⟨by simp, HS.out.b⟩
  case false =>
  go_upto_region 5 with fail
  go_cut [74] (fun c wx => c = .bool R5 ∧ S1 w wx p)
  case first =>
    cases h8
    · skip
      go_wp2_with (first | (refine ldP (k := 50) HS.out.k rfl (by kernel_rfl) rfl rfl ?_))
      with_reducible refine (C8.out _).mono ?_
      rintro e w2 ⟨rfl, b2⟩
      have HT := HS; clear HS
      have HS := Lib.hid (HT.out.step b2)
      clear HT b2 c0 c16 c17 c18
      obtain ⟨c0, c16, c17, c18⟩ := HS.out.cs
      cases b8
      · skip
        cases h16
        · skip
          go_wp2_with (first | (refine ldP (k := 58) HS.out.k rfl (by kernel_rfl) rfl rfl ?_))
          with_reducible refine (C16.out _).mono ?_
          rintro e w2 ⟨rfl, b2⟩
          have HT := HS; clear HS
          have HS := Lib.hid (HT.out.step b2)
          clear HT b2 c0 c16 c17 c18
          obtain ⟨c0, c16, c17, c18⟩ := HS.out.cs
          cases b16
          · skip
            cases h32
            · skip
              go_wp2_with (first | (refine ldP (k := 67) HS.out.k rfl (by kernel_rfl) rfl rfl ?_))
              with_reducible refine (C32.out _).mono ?_
              rintro e w2 ⟨rfl, b2⟩
              have HT := HS; clear HS
              have HS := Lib.hid (HT.out.step b2)
              clear HT b2 c0 c16 c17 c18
              obtain ⟨c0, c16, c17, c18⟩ := HS.out.cs
              go_wp2
              go_meet
              case rel => exact ⟨by rw [← H5.out]; rfl, HS.out⟩
            · skip
              go_wp2_with (first | (refine ldP (k := 67) HS.out.k rfl (by kernel_rfl) rfl rfl ?_))
              with_reducible refine (C32.out _).mono ?_
              rintro e w2 ⟨rfl, b2⟩
              have HT := HS; clear HS
              have HS := Lib.hid (HT.out.step b2)
              clear HT b2 c0 c16 c17 c18
              obtain ⟨c0, c16, c17, c18⟩ := HS.out.cs
              go_wp2
              go_meet
              case rel => exact ⟨by rw [← H5.out]; rfl, HS.out⟩
          · skip
            go_wp2
            go_meet
            case rel => exact ⟨by rw [← H5.out]; rfl, HS.out⟩
        · skip
          go_wp2_with (first | (refine ldP (k := 58) HS.out.k rfl (by kernel_rfl) rfl rfl ?_))
          with_reducible refine (C16.out _).mono ?_
          rintro e w2 ⟨rfl, b2⟩
          have HT := HS; clear HS
          have HS := Lib.hid (HT.out.step b2)
          clear HT b2 c0 c16 c17 c18
          obtain ⟨c0, c16, c17, c18⟩ := HS.out.cs
          cases h32
          · skip
            go_wp2_with (first | (refine ldP (k := 67) HS.out.k rfl (by kernel_rfl) rfl rfl ?_))
            with_reducible refine (C32.out _).mono ?_
            rintro e w2 ⟨rfl, b2⟩
            have HT := HS; clear HS
            have HS := Lib.hid (HT.out.step b2)
            clear HT b2 c0 c16 c17 c18
            obtain ⟨c0, c16, c17, c18⟩ := HS.out.cs
            go_wp2
            go_meet
            case rel => exact ⟨by rw [← H5.out]; rfl, HS.out⟩
          · skip
            go_wp2_with (first | (refine ldP (k := 67) HS.out.k rfl (by kernel_rfl) rfl rfl ?_))
            with_reducible refine (C32.out _).mono ?_
            rintro e w2 ⟨rfl, b2⟩
            have HT := HS; clear HS
            have HS := Lib.hid (HT.out.step b2)
            clear HT b2 c0 c16 c17 c18
            obtain ⟨c0, c16, c17, c18⟩ := HS.out.cs
            go_wp2
            go_meet
            case rel => exact ⟨by rw [← H5.out]; rfl, HS.out⟩
      · skip
        go_wp2
        go_meet
        case rel => exact ⟨by rw [← H5.out]; rfl, HS.out⟩
    · skip
      go_wp2_with (first | (refine ldP (k := 50) HS.out.k rfl (by kernel_rfl) rfl rfl ?_))
      with_reducible refine (C8.out _).mono ?_
      rintro e w2 ⟨rfl, b2⟩
      have HT := HS; clear HS
      have HS := Lib.hid (HT.out.step b2)
      clear HT b2 c0 c16 c17 c18
      obtain ⟨c0, c16, c17, c18⟩ := HS.out.cs
      cases h16
      · skip
        go_wp2_with (first | (refine ldP (k := 58) HS.out.k rfl (by kernel_rfl) rfl rfl ?_))
        with_reducible refine (C16.out _).mono ?_
        rintro e w2 ⟨rfl, b2⟩
        have HT := HS; clear HS
        have HS := Lib.hid (HT.out.step b2)
        clear HT b2 c0 c16 c17 c18
        obtain ⟨c0, c16, c17, c18⟩ := HS.out.cs
        cases b16
        · skip
          cases h32
          · skip
            go_wp2_with (first | (refine ldP (k := 67) HS.out.k rfl (by kernel_rfl) rfl rfl ?_))
            with_reducible refine (C32.out _).mono ?_
            rintro e w2 ⟨rfl, b2⟩
            have HT := HS; clear HS
            have HS := Lib.hid (HT.out.step b2)
            clear HT b2 c0 c16 c17 c18
            obtain ⟨c0, c16, c17, c18⟩ := HS.out.cs
            go_wp2
            go_meet
            case rel => exact ⟨by rw [← H5.out]; rfl, HS.out⟩
          · skip
            go_wp2_with (first | (refine ldP (k := 67) HS.out.k rfl (by kernel_rfl) rfl rfl ?_))
            with_reducible refine (C32.out _).mono ?_
            rintro e w2 ⟨rfl, b2⟩
            have HT := HS; clear HS
            have HS := Lib.hid (HT.out.step b2)
            clear HT b2 c0 c16 c17 c18
            obtain ⟨c0, c16, c17, c18⟩ := HS.out.cs
            go_wp2
            go_meet
            case rel => exact ⟨by rw [← H5.out]; rfl, HS.out⟩
        · skip
          go_wp2
          go_meet
          case rel => exact ⟨by rw [← H5.out]; rfl, HS.out⟩
      · skip
        go_wp2_with (first | (refine ldP (k := 58) HS.out.k rfl (by kernel_rfl) rfl rfl ?_))
        with_reducible refine (C16.out _).mono ?_
        rintro e w2 ⟨rfl, b2⟩
        have HT := HS; clear HS
        have HS := Lib.hid (HT.out.step b2)
        clear HT b2 c0 c16 c17 c18
        obtain ⟨c0, c16, c17, c18⟩ := HS.out.cs
        cases h32
        · skip
          go_wp2_with (first | (refine ldP (k := 67) HS.out.k rfl (by kernel_rfl) rfl rfl ?_))
          with_reducible refine (C32.out _).mono ?_
          rintro e w2 ⟨rfl, b2⟩
          have HT := HS; clear HS
          have HS := Lib.hid (HT.out.step b2)
          clear HT b2 c0 c16 c17 c18
          obtain ⟨c0, c16, c17, c18⟩ := HS.out.cs
          go_wp2
          go_meet
          case rel => exact ⟨by rw [← H5.out]; rfl, HS.out⟩
        · skip
          go_wp2_with (first | (refine ldP (k := 67) HS.out.k rfl (by kernel_rfl) rfl rfl ?_))
          with_reducible refine (C32.out _).mono ?_
          rintro e w2 ⟨rfl, b2⟩
          have HT := HS; clear HS
          have HS := Lib.hid (HT.out.step b2)
          clear HT b2 c0 c16 c17 c18
          obtain ⟨c0, c16, c17, c18⟩ := HS.out.cs
          go_wp2
          go_meet
          case rel => exact ⟨by rw [← H5.out]; rfl, HS.out⟩
  case rest =>
  clear HS c0 c16 c17 c18
  obtain ⟨rfl, hs⟩ := hcut
  have HS := Lib.hid hs
  clear hs
  obtain ⟨c0, c16, c17, c18⟩ := HS.out.cs
  cases R5
  case true =>
    go_wp2
    go_ret
    exact ⟨by simp, HS.out.b⟩
  case false =>
  go_upto_region 7 with fail
  cases m1
  · skip
    go_wp2_with (first | (refine ldV (k := 76) (off := 1) (v := p.pv) HS.out.k rfl rfl (by omega) (by kernel_rfl) rfl rfl ?_))
    with_reducible refine (M1.out _).mono ?_
    rintro e w2 ⟨rfl, b2⟩
    have HT := HS; clear HS
    have HS := Lib.hid (HT.out.step b2)
    clear HT b2 c0 c16 c17 c18
    obtain ⟨c0, c16, c17, c18⟩ := HS.out.cs
    go_wp2
    go_ret
    exact ⟨by rw [← H7.out]; rfl, HS.out.b⟩
  · skip
    go_wp2_with (first | (refine ldV (k := 76) (off := 1) (v := p.pv) HS.out.k rfl rfl (by omega) (by kernel_rfl) rfl rfl ?_))
    with_reducible refine (M1.out _).mono ?_
    rintro e w2 ⟨rfl, b2⟩
    have HT := HS; clear HS
    have HS := Lib.hid (HT.out.step b2)
    clear HT b2 c0 c16 c17 c18
    obtain ⟨c0, c16, c17, c18⟩ := HS.out.cs
    cases g2
    · skip
      go_wp2_with (first | (refine ldV (k := 80) (off := 6) (v := p.pg) HS.out.k rfl rfl (by omega) (by kernel_rfl) rfl rfl ?_))
      with_reducible refine (G2.out _).mono ?_
      rintro e w2 ⟨rfl, b2⟩
      have HT := HS; clear HS
      have HS := Lib.hid (HT.out.step b2)
      clear HT b2 c0 c16 c17 c18
      obtain ⟨c0, c16, c17, c18⟩ := HS.out.cs
      go_wp2
      go_ret
      exact ⟨by rw [← H7.out]; rfl, HS.out.b⟩
    · skip
      go_wp2_with (first | (refine ldV (k := 80) (off := 6) (v := p.pg) HS.out.k rfl rfl (by omega) (by kernel_rfl) rfl rfl ?_))
      with_reducible refine (G2.out _).mono ?_
      rintro e w2 ⟨rfl, b2⟩
      have HT := HS; clear HS
      have HS := Lib.hid (HT.out.step b2)
      clear HT b2 c0 c16 c17 c18
      obtain ⟨c0, c16, c17, c18⟩ := HS.out.cs
      cases g3
      · skip
        go_wp2_with (first | (refine ldV (k := 85) (off := 11) (v := p.pt) HS.out.k rfl rfl (by omega) (by kernel_rfl) rfl rfl ?_))
        with_reducible refine (G3.out _).mono ?_
        rintro e w2 ⟨rfl, b2⟩
        have HT := HS; clear HS
        have HS := Lib.hid (HT.out.step b2)
        clear HT b2 c0 c16 c17 c18
        obtain ⟨c0, c16, c17, c18⟩ := HS.out.cs
        go_wp2
        go_ret
        exact ⟨by rw [← H7.out]; rfl, HS.out.b⟩
      · skip
        go_wp2_with (first | (refine ldV (k := 85) (off := 11) (v := p.pt) HS.out.k rfl rfl (by omega) (by kernel_rfl) rfl rfl ?_))
        with_reducible refine (G3.out _).mono ?_
        rintro e w2 ⟨rfl, b2⟩
        have HT := HS; clear HS
        have HS := Lib.hid (HT.out.step b2)
        clear HT b2 c0 c16 c17 c18
        obtain ⟨c0, c16, c17, c18⟩ := HS.out.cs
        go_wp2
        go_ret
        exact ⟨by rw [← H7.out]; rfl, HS.out.b⟩
set_option maxRecDepth 100000 in
set_option maxHeartbeats 1000000 in
theorem hIsFull_any (p : Prp) (w : World) : Calls Try.prog 17 #[prpV p] w fun e w' => e = .returned (.bool (fullB p)) ∧ Below w.heap.size w w' := by
  have M1 := fun W => hMay_any p W
  unfold fullB
  obtain ⟨m1, e_m1⟩ : ∃ b, mayP p = b := ⟨_, rfl⟩
  obtain ⟨f54, e_f54⟩ : ∃ b, (p.ph == 54) = b := ⟨_, rfl⟩
  obtain ⟨f57, e_f57⟩ : ∃ b, (p.ph == 57) = b := ⟨_, rfl⟩
  rw [e_m1] at M1 ⊢
  rw [e_f54, e_f57]
  clear e_m1
  have M1 := Lib.hid M1
  unfold prpV at M1 ⊢
  go_enter Try.func17, Try.ntmps17
  go_upto_region 1 with fail
  obtain ⟨W1, hW1⟩ : ∃ W1, w.alloc (.cells (celP p) 26) = W1 := ⟨_, rfl⟩
  have HS := Lib.hid (S1.new hW1)
  obtain ⟨c0, c16, c17, c18⟩ := HS.out.cs
  rw [hW1]
  clear hW1
  cases m1
  · skip
    go_wp2_with (first | (refine ldP (k := 3) HS.out.k rfl (by kernel_rfl) rfl rfl ?_))
    with_reducible refine (M1.out _).mono ?_
    rintro e w2 ⟨rfl, b2⟩
    have HT := HS; clear HS
    have HS := Lib.hid (HT.out.step b2)
    clear HT b2 c0 c16 c17 c18
    obtain ⟨c0, c16, c17, c18⟩ := HS.out.cs
    go_wp2
    go_ret
    exact ⟨rfl, HS.out.b⟩
  · skip
    go_wp2_with (first | (refine ldP (k := 3) HS.out.k rfl (by kernel_rfl) rfl rfl ?_))
    with_reducible refine (M1.out _).mono ?_
    rintro e w2 ⟨rfl, b2⟩
    have HT := HS; clear HS
    have HS := Lib.hid (HT.out.step b2)
    clear HT b2 c0 c16 c17 c18
    obtain ⟨c0, c16, c17, c18⟩ := HS.out.cs
    cases f54
    · skip
      go_wp2
      go_ret
      exact ⟨rfl, HS.out.b⟩
    · skip
      go_wp2
      go_ret
      exact ⟨rfl, HS.out.b⟩
set_option maxRecDepth 100000 in
set_option maxHeartbeats 1000000 in
theorem hCheck_any (p : Prp) (w : World) : Calls Try.prog 7 #[prpV p] w fun e w' => e = .returned (.int .i64 (if mayP p = true then 0 else 120)) ∧ Below w.heap.size w w' := by
  have M1 := fun W => hMay_any p W
  obtain ⟨m1, e_m1⟩ : ∃ b, mayP p = b := ⟨_, rfl⟩
  rw [e_m1] at M1 ⊢
  clear e_m1
  have M1 := Lib.hid M1
  unfold prpV at M1 ⊢
  go_enter Try.func7, Try.ntmps7
  go_upto_region 1 with fail
  obtain ⟨W1, hW1⟩ : ∃ W1, w.alloc (.cells (celP p) 26) = W1 := ⟨_, rfl⟩
  have HS := Lib.hid (S1.new hW1)
  obtain ⟨c0, c16, c17, c18⟩ := HS.out.cs
  rw [hW1]
  clear hW1
  cases m1
  · skip
    go_wp2_with (first | (refine ldP (k := 4) HS.out.k rfl (by kernel_rfl) rfl rfl ?_))
    with_reducible refine (M1.out _).mono ?_
    rintro e w2 ⟨rfl, b2⟩
    have HT := HS; clear HS
    have HS := Lib.hid (HT.out.step b2)
    clear HT b2 c0 c16 c17 c18
    obtain ⟨c0, c16, c17, c18⟩ := HS.out.cs
    go_wp2
    go_ret
    exact ⟨rfl, HS.out.b⟩
  · skip
    go_wp2_with (first | (refine ldP (k := 4) HS.out.k rfl (by kernel_rfl) rfl rfl ?_))
    with_reducible refine (M1.out _).mono ?_
    rintro e w2 ⟨rfl, b2⟩
    have HT := HS; clear HS
    have HS := Lib.hid (HT.out.step b2)
    clear HT b2 c0 c16 c17 c18
    obtain ⟨c0, c16, c17, c18⟩ := HS.out.cs
    go_wp2
    go_ret
    exact ⟨rfl, HS.out.b⟩
end Go.Proofs.Ytlkgijinckhkkaa
