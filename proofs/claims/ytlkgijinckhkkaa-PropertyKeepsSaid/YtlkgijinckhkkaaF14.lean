/-
  The law of properties: keeps.
-/
import Derived.Test.YtlkgijinckhkkaaF13
namespace Go.Proofs.Ytlkgijinckhkkaa
open Go.RowKit
theorem chgE_yes {p q : Prp} (h : okP p q = true) : chgE p q = .returned (.tuple #[.agg (celP (chgP p q)), .bool true]) := by
  unfold chgE
  rw [if_pos h]; rfl
theorem chgE_no {p q : Prp} (h : okP p q = false) : chgE p q = .returned (.tuple #[.agg (celP zPrp), .bool false]) := by
  unfold chgE
  rw [h]; rfl
theorem zVal_num : zVal.vn < 18446744073709551616 := by decide
theorem kind_num {p q : Prp} (np : NumP p) : NumP (kindP p q) := by
  unfold kindP
  split
  · exact ⟨zVal_num, zVal_num, zVal_num⟩
  · exact np
theorem chg_num {p q : Prp} (np : NumP p) (nq : NumP q) : NumP (chgP p q) := by
  have nk := kind_num (q := q) np
  rw [chg_eq]
  refine ⟨?_, ?_, ?_⟩
  · show (if _ then _ else _ : Val).vn < _
    split
    · exact nq.v
    · exact nk.v
  · show (if _ then _ else _ : Val).vn < _
    split
    · exact nq.g
    · exact nk.g
  · show (if _ then _ else _ : Val).vn < _
    split
    · exact nq.t
    · exact nk.t
theorem zPrp_num : NumP zPrp := ⟨zVal_num, zVal_num, zVal_num⟩
theorem no_pc {p q : Prp} (h : okP p q = false) : p.pc = false := by
  unfold okP at h
  exact (Bool.or_eq_false_iff.1 h).1
set_option maxRecDepth 100000 in
set_option maxHeartbeats 2000000 in
theorem PropertyKeeps_una (p q : Prp) (w : World) (hp : fullB p = false) : Calls Try.prog 5 #[prpV p, prpV q] w fun e w' => e = .returned (.bool true) ∧ Below w.heap.size w w' := by
  have CI := fun W => hIsFull_any p W
  have CM := fun W => hMay_any q W
  have CW := Lib.hid (fun W => awake12_any W)
  rw [hp] at CI
  clear CM
  have e_p := show prpV p = .agg (celP p) from rfl
  have e_q := show prpV q = .agg (celP q) from rfl
  rw [e_p] at CI ⊢
  rw [e_q]
  clear e_p e_q
  have CI := Lib.hid CI

  go_enter Try.func5, Try.ntmps5
  go_upto_region 1 with fail
  obtain ⟨W1, hW1⟩ : ∃ W1, w.alloc (.cells (celP p) 26) = W1 := ⟨_, rfl⟩
  rw [hW1]
  obtain ⟨W2, hW2⟩ : ∃ W2, W1.alloc (.cells (celP q) 26) = W2 := ⟨_, rfl⟩
  have HS := Lib.hid (S2.new hW1 hW2).sl
  rw [hW2]
  clear hW1 hW2
  go_wp2_with (first | (refine ldP (k := 12) HS.out.s.k rfl (by kernel_rfl) rfl rfl ?_))
  with_reducible refine (CI.out _).mono ?_
  rintro e w2 ⟨rfl, b2⟩
  have HT := HS; clear HS
  have HS := Lib.hid (HT.out.step b2)
  clear HT b2
  go_wp2_with fail
  with_reducible refine (CW.out _).mono ?_
  rintro e w2 ⟨rfl, b2⟩
  have HT := HS; clear HS
  have HS := Lib.hid (HT.out.step b2)
  clear HT b2
  go_wp2
  go_ret
  exact ⟨rfl, HS.out.s.b⟩
set_option maxRecDepth 100000 in
set_option maxHeartbeats 2000000 in
theorem PropertyKeeps_unb (p q : Prp) (w : World) (hp : fullB p = true) (hq : mayP q = false) : Calls Try.prog 5 #[prpV p, prpV q] w fun e w' => e = .returned (.bool true) ∧ Below w.heap.size w w' := by
  have CI := fun W => hIsFull_any p W
  have CM := fun W => hMay_any q W
  have CW := Lib.hid (fun W => awake12_any W)
  rw [hp] at CI
  rw [hq] at CM
  have e_p := show prpV p = .agg (celP p) from rfl
  have e_q := show prpV q = .agg (celP q) from rfl
  rw [e_p] at CI ⊢
  rw [e_q] at CM ⊢
  clear e_p e_q
  have CI := Lib.hid CI
  have CM := Lib.hid CM
  go_enter Try.func5, Try.ntmps5
  go_upto_region 1 with fail
  obtain ⟨W1, hW1⟩ : ∃ W1, w.alloc (.cells (celP p) 26) = W1 := ⟨_, rfl⟩
  rw [hW1]
  obtain ⟨W2, hW2⟩ : ∃ W2, W1.alloc (.cells (celP q) 26) = W2 := ⟨_, rfl⟩
  have HS := Lib.hid (S2.new hW1 hW2).sl
  rw [hW2]
  clear hW1 hW2
  go_wp2_with (first | (refine ldP (k := 12) HS.out.s.k rfl (by kernel_rfl) rfl rfl ?_))
  with_reducible refine (CI.out _).mono ?_
  rintro e w2 ⟨rfl, b2⟩
  have HT := HS; clear HS
  have HS := Lib.hid (HT.out.step b2)
  clear HT b2
  go_wp2_with (first | (refine ldP (k := 16) HS.out.s.k2 rfl (by kernel_rfl) rfl rfl ?_))
  with_reducible refine (CM.out _).mono ?_
  rintro e w2 ⟨rfl, b2⟩
  have HT := HS; clear HS
  have HS := Lib.hid (HT.out.step b2)
  clear HT b2
  go_wp2_with fail
  with_reducible refine (CW.out _).mono ?_
  rintro e w2 ⟨rfl, b2⟩
  have HT := HS; clear HS
  have HS := Lib.hid (HT.out.step b2)
  clear HT b2
  go_wp2
  go_ret
  exact ⟨rfl, HS.out.s.b⟩
set_option maxRecDepth 100000 in
set_option maxHeartbeats 2000000 in
theorem keeps12_no (p q : Prp) (w : World) (np : NumP p) (nq : NumP q) (hp : fullB p = true) (hq : mayP q = true) (ho : okP p q = false) : Calls Try.prog 5 #[prpV p, prpV q] w fun e w' => e = .returned (.bool true) ∧ Below w.heap.size w w' := by
  have CI := fun W => hIsFull_any p W
  have CM := fun W => hMay_any q W
  have CW := Lib.hid (fun W => awake12_any W)
  have EC := fun W => gChange_any p q W hp hq np nq
  rw [hp] at CI
  rw [hq] at CM
  rw [chgE_no ho] at EC
  have hc := no_pc ho
  clear ho np nq hp hq
  have e_p := show prpV p = .agg (celP p) from rfl
  have e_q := show prpV q = .agg (celP q) from rfl
  rw [e_p] at CI EC ⊢
  rw [e_q] at CM EC ⊢
  clear e_p e_q
  have CI := Lib.hid CI
  have CM := Lib.hid CM
  have EC := Lib.hid EC
  go_enter Try.func5, Try.ntmps5
  go_upto_region 1 with fail
  obtain ⟨W1, hW1⟩ : ∃ W1, w.alloc (.cells (celP p) 26) = W1 := ⟨_, rfl⟩
  rw [hW1]
  obtain ⟨W2, hW2⟩ : ∃ W2, W1.alloc (.cells (celP q) 26) = W2 := ⟨_, rfl⟩
  have HS := Lib.hid (S2.new hW1 hW2).sl
  rw [hW2]
  clear hW1 hW2
  go_wp2_with (first | (refine ldP (k := 12) HS.out.s.k rfl (by kernel_rfl) rfl rfl ?_))
  with_reducible refine (CI.out _).mono ?_
  rintro e w2 ⟨rfl, b2⟩
  have HT := HS; clear HS
  have HS := Lib.hid (HT.out.step b2)
  clear HT b2
  go_wp2_with (first | (refine ldP (k := 16) HS.out.s.k2 rfl (by kernel_rfl) rfl rfl ?_))
  with_reducible refine (CM.out _).mono ?_
  rintro e w2 ⟨rfl, b2⟩
  have HT := HS; clear HS
  have HS := Lib.hid (HT.out.step b2)
  clear HT b2
  go_wp2_with (first | (refine ldP (k := 22) HS.out.s.k rfl (by kernel_rfl) rfl rfl ?_) | (refine ldP (k := 23) HS.out.s.k2 rfl (by kernel_rfl) rfl rfl ?_))
  with_reducible refine (EC.out _).mono ?_
  rintro e w3 ⟨rfl, b2⟩
  have HT := HS; clear HS
  have HS := Lib.hid (HT.out.step b2)
  clear HT b2
  go_upto_region 4 with (refine stP (p := zPrp) (old := zPrp) (show Blk _ w3.heap.size zPrp from heap_alloc_last w3 _) rfl rfl rfl rfl rfl ?_; rw [World.setRow_alloc_new])
  obtain ⟨WX, hWX⟩ : ∃ W, w3.alloc (.cells (celP zPrp) 26) = W := ⟨_, rfl⟩
  have HT := HS; clear HS
  have HS := Lib.hid (HT.out.push hWX)
  rw [hWX]
  clear hWX HT
  obtain ⟨X, hX⟩ : ∃ X, w3.heap.size = X := ⟨_, rfl⟩
  rw [hX] at HS ⊢
  clear hX
  have c18 := HS.out.cs.2
  rw [hc] at c18
  go_wp2_with fail
  with_reducible refine (CW.out _).mono ?_
  rintro e w2 ⟨rfl, b2⟩
  have HT := HS; clear HS
  have HS := Lib.hid (HT.out.step b2)
  clear HT b2
  go_wp2
  go_ret
  exact ⟨rfl, HS.out.s.b⟩
set_option maxRecDepth 100000 in
set_option maxHeartbeats 2000000 in
theorem keeps12_ok (p q : Prp) (w : World) (np : NumP p) (nq : NumP q) (hp : fullB p = true) (hq : mayP q = true) (ho : okP p q = true) : Calls Try.prog 5 #[prpV p, prpV q] w fun e w' => e = .returned (.bool true) ∧ Below w.heap.size w w' := by
  have CI := fun W => hIsFull_any p W
  have CM := fun W => hMay_any q W
  have CW := Lib.hid (fun W => awake12_any W)
  have EC := fun W => gChange_any p q W hp hq np nq
  rw [hp] at CI
  rw [hq] at CM
  rw [chgE_yes ho] at EC
  have hs := chg_fixed hp hq np nq ho
  have fa := full_chg hp hq
  have na := chg_num (p := p) (q := q) np nq
  have oa := ok_again hp hq
  have ca := chg_again (p := p) (q := q) hp
  obtain ⟨a, ha⟩ : ∃ a, chgP p q = a := ⟨_, rfl⟩
  rw [ha] at EC hs fa na oa ca
  have EA := fun W => gChange_any a q W fa hq na nq
  rw [chgE_yes oa, ca] at EA
  have EZ := fun W => gChange_any a zPrp W fa zPrp_may na zPrp_num
  rw [chgE_yes (ok_none a), chg_none] at EZ
  have CA := fun W => hIsFull_any a W
  rw [fa] at CA
  have SA := fun W => hSame_any a a W
  rw [sameP_self] at SA
  have SP := fun W => hSame_any a p W
  have mf := full_may (full_full hq)
  have ff := full_full mf
  have F1 := fun W => gFull_any q W hq
  have F2 := fun W => gFull_any (fullP q) W mf
  have CF := fun W => hIsFull_any (fullP (fullP q)) W
  rw [ff] at CF
  obtain ⟨f, hf⟩ : ∃ a, fullP q = a := ⟨_, rfl⟩
  rw [hf] at F1 F2 CF
  obtain ⟨g, hg⟩ : ∃ a, fullP f = a := ⟨_, rfl⟩
  rw [hg] at F2 CF
  obtain ⟨s, e_s⟩ : ∃ b, samePB a p = b := ⟨_, rfl⟩
  rw [e_s] at SP hs
  obtain ⟨pc, e_pc⟩ : ∃ b, p.pc = b := ⟨_, rfl⟩
  obtain ⟨pw, e_pw⟩ : ∃ b, p.pw = b := ⟨_, rfl⟩
  rw [e_pc, e_pw] at hs
  clear ho np nq hp hq ha fa na oa ca mf ff hf hg e_s
  have e_p := show prpV p = .agg (celP p) from rfl
  have e_q := show prpV q = .agg (celP q) from rfl
  have e_a := show prpV a = .agg (celP a) from rfl
  have e_f := show prpV f = .agg (celP f) from rfl
  have e_g := show prpV g = .agg (celP g) from rfl
  have e_z : prpV zPrp = .agg #[.int .i64 0, .int .i64 0, .bool false, .float .f64 0, .string ⟨#[]⟩, .int .i64 0, .int .i64 0, .bool false, .float .f64 0, .string ⟨#[]⟩, .int .i64 0, .int .i64 0, .bool false, .float .f64 0, .string ⟨#[]⟩, .int .i64 0, .bool false, .bool false, .bool false] := rfl
  rw [e_p] at CI EC SP ⊢
  rw [e_q] at CM EC EA F1 ⊢
  rw [e_a] at EA EZ CA SA SP
  rw [e_f] at F1 F2
  rw [e_g] at F2 CF
  rw [e_z] at EZ
  clear e_p e_q e_a e_f e_g e_z
  have CI := Lib.hid CI
  have CM := Lib.hid CM
  have EC := Lib.hid EC
  have EA := Lib.hid EA
  have EZ := Lib.hid EZ
  have CA := Lib.hid CA
  have SA := Lib.hid SA
  have SP := Lib.hid SP
  have F1 := Lib.hid F1
  have F2 := Lib.hid F2
  have CF := Lib.hid CF
  go_enter Try.func5, Try.ntmps5
  go_upto_region 1 with fail
  obtain ⟨W1, hW1⟩ : ∃ W1, w.alloc (.cells (celP p) 26) = W1 := ⟨_, rfl⟩
  rw [hW1]
  obtain ⟨W2, hW2⟩ : ∃ W2, W1.alloc (.cells (celP q) 26) = W2 := ⟨_, rfl⟩
  have HS := Lib.hid (S2.new hW1 hW2).sl
  rw [hW2]
  clear hW1 hW2
  go_wp2_with (first | (refine ldP (k := 12) HS.out.s.k rfl (by kernel_rfl) rfl rfl ?_))
  with_reducible refine (CI.out _).mono ?_
  rintro e w2 ⟨rfl, b2⟩
  have HT := HS; clear HS
  have HS := Lib.hid (HT.out.step b2)
  clear HT b2
  go_wp2_with (first | (refine ldP (k := 16) HS.out.s.k2 rfl (by kernel_rfl) rfl rfl ?_))
  with_reducible refine (CM.out _).mono ?_
  rintro e w2 ⟨rfl, b2⟩
  have HT := HS; clear HS
  have HS := Lib.hid (HT.out.step b2)
  clear HT b2
  go_wp2_with (first | (refine ldP (k := 22) HS.out.s.k rfl (by kernel_rfl) rfl rfl ?_) | (refine ldP (k := 23) HS.out.s.k2 rfl (by kernel_rfl) rfl rfl ?_))
  with_reducible refine (EC.out _).mono ?_
  rintro e w3 ⟨rfl, b2⟩
  have HT := HS; clear HS
  have HS := Lib.hid (HT.out.step b2)
  clear HT b2
  go_upto_region 4 with (refine stP (p := a) (old := zPrp) (show Blk _ w3.heap.size zPrp from heap_alloc_last w3 _) rfl rfl rfl rfl rfl ?_; rw [World.setRow_alloc_new])
  obtain ⟨WX, hWX⟩ : ∃ W, w3.alloc (.cells (celP a) 26) = W := ⟨_, rfl⟩
  have HT := HS; clear HS
  have HS := Lib.hid (HT.out.push hWX)
  rw [hWX]
  clear hWX HT
  obtain ⟨X, hX⟩ : ∃ X, w3.heap.size = X := ⟨_, rfl⟩
  rw [hX] at HS ⊢
  clear hX
  go_wp2_with (first | (refine ldP (k := 35) (HS.out.blk (X := X) (r := a) (by simp)) rfl (by kernel_rfl) rfl rfl ?_))
  with_reducible refine (CA.out _).mono ?_
  rintro e w2 ⟨rfl, b2⟩
  have HT := HS; clear HS
  have HS := Lib.hid (HT.out.step b2)
  clear HT b2
  go_wp2_with (first | (refine ldP (k := 39) (HS.out.blk (X := X) (r := a) (by simp)) rfl (by kernel_rfl) rfl rfl ?_) | (refine ldP (k := 40) HS.out.s.k2 rfl (by kernel_rfl) rfl rfl ?_))
  with_reducible refine (EA.out _).mono ?_
  rintro e w4 ⟨rfl, b2⟩
  have HT := HS; clear HS
  have HS := Lib.hid (HT.out.step b2)
  clear HT b2
  go_upto_region 9 with (refine stP (p := a) (old := zPrp) (show Blk _ w4.heap.size zPrp from heap_alloc_last w4 _) rfl rfl rfl rfl rfl ?_; rw [World.setRow_alloc_new])
  obtain ⟨WY, hWY⟩ : ∃ W, w4.alloc (.cells (celP a) 26) = W := ⟨_, rfl⟩
  have HT := HS; clear HS
  have HS := Lib.hid (HT.out.push hWY)
  rw [hWY]
  clear hWY HT
  obtain ⟨Y, hY⟩ : ∃ X, w4.heap.size = X := ⟨_, rfl⟩
  rw [hY] at HS ⊢
  clear hY
  go_wp2_with (first | (refine ldP (k := 47) (HS.out.blk (X := Y) (r := a) (by simp)) rfl (by kernel_rfl) rfl rfl ?_) | (refine ldP (k := 48) (HS.out.blk (X := X) (r := a) (by simp)) rfl (by kernel_rfl) rfl rfl ?_))
  with_reducible refine (SA.out _).mono ?_
  rintro e w2 ⟨rfl, b2⟩
  have HT := HS; clear HS
  have HS := Lib.hid (HT.out.step b2)
  clear HT b2
  go_wp2_with (first | (refine ldP (k := 53) (HS.out.blk (X := X) (r := a) (by simp)) rfl (by kernel_rfl) rfl rfl ?_))
  with_reducible refine (EZ.out _).mono ?_
  rintro e w5 ⟨rfl, b2⟩
  have HT := HS; clear HS
  have HS := Lib.hid (HT.out.step b2)
  clear HT b2
  go_upto_region 12 with (refine stP (p := a) (old := zPrp) (show Blk _ w5.heap.size zPrp from heap_alloc_last w5 _) rfl rfl rfl rfl rfl ?_; rw [World.setRow_alloc_new])
  obtain ⟨WZ, hWZ⟩ : ∃ W, w5.alloc (.cells (celP a) 26) = W := ⟨_, rfl⟩
  have HT := HS; clear HS
  have HS := Lib.hid (HT.out.push hWZ)
  rw [hWZ]
  clear hWZ HT
  obtain ⟨Z, hZ⟩ : ∃ X, w5.heap.size = X := ⟨_, rfl⟩
  rw [hZ] at HS ⊢
  clear hZ
  go_wp2_with (first | (refine ldP (k := 58) HS.out.s.k2 rfl (by kernel_rfl) rfl rfl ?_))
  with_reducible refine (F1.out _).mono ?_
  rintro e w2 ⟨rfl, b2⟩
  have HT := HS; clear HS
  have HS := Lib.hid (HT.out.step b2)
  clear HT b2
  go_wp2_with fail
  with_reducible refine (F2.out _).mono ?_
  rintro e w6 ⟨rfl, b2⟩
  have HT := HS; clear HS
  have HS := Lib.hid (HT.out.step b2)
  clear HT b2
  go_upto_region 13 with (refine stP (p := g) (old := zPrp) (show Blk _ w6.heap.size zPrp from heap_alloc_last w6 _) rfl rfl rfl rfl rfl ?_; rw [World.setRow_alloc_new])
  obtain ⟨WU, hWU⟩ : ∃ W, w6.alloc (.cells (celP g) 26) = W := ⟨_, rfl⟩
  have HT := HS; clear HS
  have HS := Lib.hid (HT.out.push hWU)
  rw [hWU]
  clear hWU HT
  obtain ⟨U, hU⟩ : ∃ X, w6.heap.size = X := ⟨_, rfl⟩
  rw [hU] at HS ⊢
  clear hU
  go_wp2_with (first | (refine ldP (k := 64) (HS.out.blk (X := Z) (r := a) (by simp)) rfl (by kernel_rfl) rfl rfl ?_) | (refine ldP (k := 65) (HS.out.blk (X := X) (r := a) (by simp)) rfl (by kernel_rfl) rfl rfl ?_))
  with_reducible refine (SA.out _).mono ?_
  rintro e w2 ⟨rfl, b2⟩
  have HT := HS; clear HS
  have HS := Lib.hid (HT.out.step b2)
  clear HT b2
  go_wp2_with (first | (refine ldP (k := 70) (HS.out.blk (X := U) (r := g) (by simp)) rfl (by kernel_rfl) rfl rfl ?_))
  with_reducible refine (CF.out _).mono ?_
  rintro e w2 ⟨rfl, b2⟩
  have HT := HS; clear HS
  have HS := Lib.hid (HT.out.step b2)
  clear HT b2
  obtain ⟨c16, c18⟩ := HS.out.cs
  rw [e_pw] at c16
  rw [e_pc] at c18
  cases pc
  · cases pw
    · obtain rfl := hs rfl rfl
      go_wp2_with (first | (refine ldP (k := 81) (HS.out.blk (X := X) (r := a) (by simp)) rfl (by kernel_rfl) rfl rfl ?_) | (refine ldP (k := 82) HS.out.s.k rfl (by kernel_rfl) rfl rfl ?_))
      with_reducible refine (SP.out _).mono ?_
      rintro e w2 ⟨rfl, b2⟩
      have HT := HS; clear HS
      have HS := Lib.hid (HT.out.step b2)
      clear HT b2
      go_wp2_with fail
      with_reducible refine (CW.out _).mono ?_
      rintro e w2 ⟨rfl, b2⟩
      have HT := HS; clear HS
      have HS := Lib.hid (HT.out.step b2)
      clear HT b2
      go_wp2
      go_ret
      exact ⟨rfl, HS.out.s.b⟩
    · skip
      go_wp2_with fail
      with_reducible refine (CW.out _).mono ?_
      rintro e w2 ⟨rfl, b2⟩
      have HT := HS; clear HS
      have HS := Lib.hid (HT.out.step b2)
      clear HT b2
      go_wp2
      go_ret
      exact ⟨rfl, HS.out.s.b⟩
  · skip
    go_wp2_with fail
    with_reducible refine (CW.out _).mono ?_
    rintro e w2 ⟨rfl, b2⟩
    have HT := HS; clear HS
    have HS := Lib.hid (HT.out.step b2)
    clear HT b2
    go_wp2
    go_ret
    exact ⟨rfl, HS.out.s.b⟩
theorem keeps12_any (p q : Prp) (w : World) (np : NumP p) (nq : NumP q) : Calls Try.prog 5 #[prpV p, prpV q] w fun e w' => e = .returned (.bool true) ∧ Below w.heap.size w w' := by
  cases hp : fullB p
  · exact PropertyKeeps_una p q w hp
  · cases hq : mayP q
    · exact PropertyKeeps_unb p q w hp hq
    · cases ho : okP p q
      · exact keeps12_no p q w np nq hp hq ho
      · exact keeps12_ok p q w np nq hp hq ho
end Go.Proofs.Ytlkgijinckhkkaa
