/-
  The program's shapeOperands.
-/
import Derived.Test.YtfpmhahjemdodaaGreatDoorJ18
namespace Go.Proofs.YtfpmhahjemdodaaGreatDoor
open Go.RowKit Go.Shelf
attribute [local go_sem] stFl hmf
set_option maxRecDepth 100000 in
set_option maxHeartbeats 4000000 in
theorem ashapeOperands_any {nmd rsv : ByteArray → Bool} (hL : Lx nmd rsv) {nb b : Nat} {F : Nat → Shp} (W : World) (hT : Tab nb b F W) :
    Calls Tryz.prog 30 #[.slice (some ⟨b, 0, none⟩) 63 63] W fun e w' => (∃ v, e = .returned v) ∧ Tab nb b (upd (upd (upd (upd (upd (upd (upd (upd (upd (upd (upd (upd (upd (upd F 2 { st := some (tName nmd rsv) }) 4 { fl := some (tFree) }) 5 { nm := some (tAmount) }) 6 { st := some (tText) }) 7 { kd := some (tEach (tEither (tExpr) (tIs [8]))) }) 9 { kd := some (tEach (tIs [10, 11, 12])) }) 10 { st := some (tText), kd := some (tRow [tExpr]) }) 11 { st := some (tText), kd := some (tRow [tAcc 0]) }) 12 { st := some (tText), kd := some (tRow [tAcc 1]) }) 13 { st := some (tEither (tUnnamed) (tName nmd rsv)), kd := some (tLast (tIs [2]) (tIs [41])) }) 14 { st := some (tMember nmd), kd := some (tRow [tExpr]) }) 15 { kd := some (tRow [tExpr, tExpr]) }) 16 { kd := some (tFirst (tExpr) (tExpr)) }) 17 { kd := some (tFirst (tExpr) (tExpr)) }) w' ∧ Kx b W w' := by
  have hn := hT.le
  have hb := hT.lt
  have HT := Lib.hid hT
  have HK := Lib.hid (Kx.refl b W)
  have HL := Lib.hid hL
  clear hT hL
  go_enter Tryz.func30, Tryz.ntmps30
  go_wp2_with fail
  refine (afirst_any hn (tst_expr _) (tst_expr _)).mono ?_
  rintro e w1 ⟨v1, rfl, T1, b2⟩
  have hB : Below W.heap.size W w1 := b2
  replace HT := Lib.hid (HT.out.on hB)
  replace HK := Lib.hid (HK.out.trans (Kx.of hB))
  replace hn := HT.out.le
  obtain ⟨f1, c1, rfl⟩ := T1.func
  replace T1 := Lib.hid T1
  clear b2 hB
  have hS : ShpV nb w1 (#[.nilFunc, .nilFunc, .nilFunc, .nilFunc, (.func (.func f1) #[] c1)] : Array Value).toList { kd := some (tFirst (tExpr) (tExpr)) } := ⟨_, _, _, _, _, rfl, rfl, rfl, rfl, rfl, T1.out⟩
  replace hS := Lib.hid hS.one
  have hY := Lib.hid (new_shape w1 .nilFunc .nilFunc .nilFunc .nilFunc (.func (.func f1) #[] c1) 63)
  have hcall : b < w1.heap.size := Nat.lt_of_lt_of_le hb hn
  go_wp2_with (refine wpList_store_mid rfl 63 _ _ rfl w1.heap.size 0 #[.nilFunc, .nilFunc, .nilFunc, .nilFunc, (.func (.func f1) #[] c1)] rfl rfl hY.out.1 (by kernel_rfl) hS.out ?_; generalize World.setCells (w1.alloc (.cells #[.nilFunc, .nilFunc, .nilFunc, .nilFunc, .nilFunc] 63)) w1.heap.size 0 (#[.nilFunc, .nilFunc, .nilFunc, .nilFunc, (.func (.func f1) #[] c1)] : Array Value).toList = w2 at hY ⊢; refine Hid.out ?_)
  have hB : Below w1.heap.size w1 w2 := hY.out.2.1
  replace HT := Lib.hid (HT.out.on hB)
  replace HK := Lib.hid (HK.out.trans (Kx.of hB))
  replace hn := HT.out.le
  replace T1 := Lib.hid (T1.out.on hB)
  obtain ⟨r0, r1, r2, r3, r4⟩ := hY.out.2.2
  have call0 := Lib.hid r0
  have call1 := Lib.hid r1
  have call2 := Lib.hid r2
  have call3 := Lib.hid r3
  have call4 := Lib.hid r4
  clear hS hY hB r0 r1 r2 r3 r4
  refine Lib.hid ?_
  have hS : ShpV nb w2 (#[.nilFunc, (.func (.func 87) #[] #[]), .nilFunc, .nilFunc, .nilFunc] : Array Value).toList { st := some (tName nmd rsv) } := ⟨_, _, _, _, _, rfl, rfl, (tst_name HL.out _), rfl, rfl, rfl⟩
  have hX : Hid (Tab nb b (upd F 2 { st := some (tName nmd rsv) }) (w2.setCells b 10 (#[.nilFunc, (.func (.func 87) #[] #[]), .nilFunc, .nilFunc, .nilFunc] : Array Value).toList) ∧ Kx b w2 (w2.setCells b 10 (#[.nilFunc, (.func (.func 87) #[] #[]), .nilFunc, .nilFunc, .nilFunc] : Array Value).toList)) := Lib.hid (HT.out.set 2 (by omega) hS)
  replace hS := Lib.hid hS.one
  go_wp2_with (refine wpList_store_mid rfl 63 _ _ rfl b 10 #[.nilFunc, (.func (.func 87) #[] #[]), .nilFunc, .nilFunc, .nilFunc] rfl rfl (HT.out.there 2 (by omega)) (by kernel_rfl) hS.out ?_; generalize w2.setCells b 10 (#[.nilFunc, (.func (.func 87) #[] #[]), .nilFunc, .nilFunc, .nilFunc] : Array Value).toList = w3 at hX ⊢; refine Hid.out ?_)
  clear hS
  replace T1 := Lib.hid (T1.out.abv (hX.out.2.abv hb))
  replace call0 := Lib.hid ((World.cell?_of_block (hX.out.2.block _ (cell_lt call0.out) (Nat.ne_of_gt hcall))).trans call0.out)
  replace call1 := Lib.hid ((World.cell?_of_block (hX.out.2.block _ (cell_lt call1.out) (Nat.ne_of_gt hcall))).trans call1.out)
  replace call2 := Lib.hid ((World.cell?_of_block (hX.out.2.block _ (cell_lt call2.out) (Nat.ne_of_gt hcall))).trans call2.out)
  replace call3 := Lib.hid ((World.cell?_of_block (hX.out.2.block _ (cell_lt call3.out) (Nat.ne_of_gt hcall))).trans call3.out)
  replace call4 := Lib.hid ((World.cell?_of_block (hX.out.2.block _ (cell_lt call4.out) (Nat.ne_of_gt hcall))).trans call4.out)
  replace HT := Lib.hid hX.out.1
  replace HK := Lib.hid (HK.out.trans hX.out.2)
  replace hn := HT.out.le
  clear hX
  refine Lib.hid ?_
  have hS : ShpV nb w3 (#[.nilFunc, .nilFunc, .nilFunc, (.func (.func 88) #[] #[]), .nilFunc] : Array Value).toList { fl := some (tFree) } := ⟨_, _, _, _, _, rfl, rfl, rfl, rfl, (tst_free _), rfl⟩
  have hX : Hid (Tab nb b (upd (upd F 2 { st := some (tName nmd rsv) }) 4 { fl := some (tFree) }) (w3.setCells b 20 (#[.nilFunc, .nilFunc, .nilFunc, (.func (.func 88) #[] #[]), .nilFunc] : Array Value).toList) ∧ Kx b w3 (w3.setCells b 20 (#[.nilFunc, .nilFunc, .nilFunc, (.func (.func 88) #[] #[]), .nilFunc] : Array Value).toList)) := Lib.hid (HT.out.set 4 (by omega) hS)
  replace hS := Lib.hid hS.one
  go_wp2_with (refine wpList_store_mid rfl 63 _ _ rfl b 20 #[.nilFunc, .nilFunc, .nilFunc, (.func (.func 88) #[] #[]), .nilFunc] rfl rfl (HT.out.there 4 (by omega)) (by kernel_rfl) hS.out ?_; generalize w3.setCells b 20 (#[.nilFunc, .nilFunc, .nilFunc, (.func (.func 88) #[] #[]), .nilFunc] : Array Value).toList = w4 at hX ⊢; refine Hid.out ?_)
  clear hS
  replace T1 := Lib.hid (T1.out.abv (hX.out.2.abv hb))
  replace call0 := Lib.hid ((World.cell?_of_block (hX.out.2.block _ (cell_lt call0.out) (Nat.ne_of_gt hcall))).trans call0.out)
  replace call1 := Lib.hid ((World.cell?_of_block (hX.out.2.block _ (cell_lt call1.out) (Nat.ne_of_gt hcall))).trans call1.out)
  replace call2 := Lib.hid ((World.cell?_of_block (hX.out.2.block _ (cell_lt call2.out) (Nat.ne_of_gt hcall))).trans call2.out)
  replace call3 := Lib.hid ((World.cell?_of_block (hX.out.2.block _ (cell_lt call3.out) (Nat.ne_of_gt hcall))).trans call3.out)
  replace call4 := Lib.hid ((World.cell?_of_block (hX.out.2.block _ (cell_lt call4.out) (Nat.ne_of_gt hcall))).trans call4.out)
  replace HT := Lib.hid hX.out.1
  replace HK := Lib.hid (HK.out.trans hX.out.2)
  replace hn := HT.out.le
  clear hX
  refine Lib.hid ?_
  have hS : ShpV nb w4 (#[.nilFunc, .nilFunc, (.func (.func 89) #[] #[]), .nilFunc, .nilFunc] : Array Value).toList { nm := some (tAmount) } := ⟨_, _, _, _, _, rfl, rfl, rfl, (tst_amount _), rfl, rfl⟩
  have hX : Hid (Tab nb b (upd (upd (upd F 2 { st := some (tName nmd rsv) }) 4 { fl := some (tFree) }) 5 { nm := some (tAmount) }) (w4.setCells b 25 (#[.nilFunc, .nilFunc, (.func (.func 89) #[] #[]), .nilFunc, .nilFunc] : Array Value).toList) ∧ Kx b w4 (w4.setCells b 25 (#[.nilFunc, .nilFunc, (.func (.func 89) #[] #[]), .nilFunc, .nilFunc] : Array Value).toList)) := Lib.hid (HT.out.set 5 (by omega) hS)
  replace hS := Lib.hid hS.one
  go_wp2_with (refine wpList_store_mid rfl 63 _ _ rfl b 25 #[.nilFunc, .nilFunc, (.func (.func 89) #[] #[]), .nilFunc, .nilFunc] rfl rfl (HT.out.there 5 (by omega)) (by kernel_rfl) hS.out ?_; generalize w4.setCells b 25 (#[.nilFunc, .nilFunc, (.func (.func 89) #[] #[]), .nilFunc, .nilFunc] : Array Value).toList = w5 at hX ⊢; refine Hid.out ?_)
  clear hS
  replace T1 := Lib.hid (T1.out.abv (hX.out.2.abv hb))
  replace call0 := Lib.hid ((World.cell?_of_block (hX.out.2.block _ (cell_lt call0.out) (Nat.ne_of_gt hcall))).trans call0.out)
  replace call1 := Lib.hid ((World.cell?_of_block (hX.out.2.block _ (cell_lt call1.out) (Nat.ne_of_gt hcall))).trans call1.out)
  replace call2 := Lib.hid ((World.cell?_of_block (hX.out.2.block _ (cell_lt call2.out) (Nat.ne_of_gt hcall))).trans call2.out)
  replace call3 := Lib.hid ((World.cell?_of_block (hX.out.2.block _ (cell_lt call3.out) (Nat.ne_of_gt hcall))).trans call3.out)
  replace call4 := Lib.hid ((World.cell?_of_block (hX.out.2.block _ (cell_lt call4.out) (Nat.ne_of_gt hcall))).trans call4.out)
  replace HT := Lib.hid hX.out.1
  replace HK := Lib.hid (HK.out.trans hX.out.2)
  replace hn := HT.out.le
  clear hX
  refine Lib.hid ?_
  have hS : ShpV nb w5 (#[.nilFunc, (.func (.func 90) #[] #[]), .nilFunc, .nilFunc, .nilFunc] : Array Value).toList { st := some (tText) } := ⟨_, _, _, _, _, rfl, rfl, (tst_text _), rfl, rfl, rfl⟩
  have hX : Hid (Tab nb b (upd (upd (upd (upd F 2 { st := some (tName nmd rsv) }) 4 { fl := some (tFree) }) 5 { nm := some (tAmount) }) 6 { st := some (tText) }) (w5.setCells b 30 (#[.nilFunc, (.func (.func 90) #[] #[]), .nilFunc, .nilFunc, .nilFunc] : Array Value).toList) ∧ Kx b w5 (w5.setCells b 30 (#[.nilFunc, (.func (.func 90) #[] #[]), .nilFunc, .nilFunc, .nilFunc] : Array Value).toList)) := Lib.hid (HT.out.set 6 (by omega) hS)
  replace hS := Lib.hid hS.one
  go_wp2_with (refine wpList_store_mid rfl 63 _ _ rfl b 30 #[.nilFunc, (.func (.func 90) #[] #[]), .nilFunc, .nilFunc, .nilFunc] rfl rfl (HT.out.there 6 (by omega)) (by kernel_rfl) hS.out ?_; generalize w5.setCells b 30 (#[.nilFunc, (.func (.func 90) #[] #[]), .nilFunc, .nilFunc, .nilFunc] : Array Value).toList = w6 at hX ⊢; refine Hid.out ?_)
  clear hS
  replace T1 := Lib.hid (T1.out.abv (hX.out.2.abv hb))
  replace call0 := Lib.hid ((World.cell?_of_block (hX.out.2.block _ (cell_lt call0.out) (Nat.ne_of_gt hcall))).trans call0.out)
  replace call1 := Lib.hid ((World.cell?_of_block (hX.out.2.block _ (cell_lt call1.out) (Nat.ne_of_gt hcall))).trans call1.out)
  replace call2 := Lib.hid ((World.cell?_of_block (hX.out.2.block _ (cell_lt call2.out) (Nat.ne_of_gt hcall))).trans call2.out)
  replace call3 := Lib.hid ((World.cell?_of_block (hX.out.2.block _ (cell_lt call3.out) (Nat.ne_of_gt hcall))).trans call3.out)
  replace call4 := Lib.hid ((World.cell?_of_block (hX.out.2.block _ (cell_lt call4.out) (Nat.ne_of_gt hcall))).trans call4.out)
  replace HT := Lib.hid hX.out.1
  replace HK := Lib.hid (HK.out.trans hX.out.2)
  replace hn := HT.out.le
  clear hX
  refine Lib.hid ?_
  go_wp2_with fail
  refine (ais_any (nb := nb) [8] _ _ _ (Nat.le_trans hn (b1 _).size) hn (by simp) (new_cells [8] (fun k => .int .i64 k) w6 _)).mono ?_
  rintro e w7 ⟨v7, rfl, T7, b2⟩
  have hB : Below w6.heap.size w6 w7 := (b1 _).trans (b2.mono (b1 _).size)
  replace HT := Lib.hid (HT.out.on hB)
  replace HK := Lib.hid (HK.out.trans (Kx.of hB))
  replace hn := HT.out.le
  replace T1 := Lib.hid (T1.out.on hB)
  replace call0 := Lib.hid (cell_kept call0.out hB)
  replace call1 := Lib.hid (cell_kept call1.out hB)
  replace call2 := Lib.hid (cell_kept call2.out hB)
  replace call3 := Lib.hid (cell_kept call3.out hB)
  replace call4 := Lib.hid (cell_kept call4.out hB)
  obtain ⟨f7, c7, rfl⟩ := T7.func
  replace T7 := Lib.hid T7
  clear b2 hB
  go_wp2_with fail
  refine (aeither_any hn (tst_expr _) T7.out).mono ?_
  rintro e w8 ⟨v8, rfl, T8, b2⟩
  have hB : Below w7.heap.size w7 w8 := b2
  replace HT := Lib.hid (HT.out.on hB)
  replace HK := Lib.hid (HK.out.trans (Kx.of hB))
  replace hn := HT.out.le
  replace T1 := Lib.hid (T1.out.on hB)
  replace T7 := Lib.hid (T7.out.on hB)
  replace call0 := Lib.hid (cell_kept call0.out hB)
  replace call1 := Lib.hid (cell_kept call1.out hB)
  replace call2 := Lib.hid (cell_kept call2.out hB)
  replace call3 := Lib.hid (cell_kept call3.out hB)
  replace call4 := Lib.hid (cell_kept call4.out hB)
  obtain ⟨f8, c8, rfl⟩ := T8.func
  replace T8 := Lib.hid T8
  clear b2 hB
  go_wp2_with fail
  refine (aeach_any hn T8.out).mono ?_
  rintro e w9 ⟨v9, rfl, T9, b2⟩
  have hB : Below w8.heap.size w8 w9 := b2
  replace HT := Lib.hid (HT.out.on hB)
  replace HK := Lib.hid (HK.out.trans (Kx.of hB))
  replace hn := HT.out.le
  replace T1 := Lib.hid (T1.out.on hB)
  replace T7 := Lib.hid (T7.out.on hB)
  replace T8 := Lib.hid (T8.out.on hB)
  replace call0 := Lib.hid (cell_kept call0.out hB)
  replace call1 := Lib.hid (cell_kept call1.out hB)
  replace call2 := Lib.hid (cell_kept call2.out hB)
  replace call3 := Lib.hid (cell_kept call3.out hB)
  replace call4 := Lib.hid (cell_kept call4.out hB)
  obtain ⟨f9, c9, rfl⟩ := T9.func
  replace T9 := Lib.hid T9
  clear b2 hB
  have hS : ShpV nb w9 (#[.nilFunc, .nilFunc, .nilFunc, .nilFunc, (.func (.func f9) #[] c9)] : Array Value).toList { kd := some (tEach (tEither (tExpr) (tIs [8]))) } := ⟨_, _, _, _, _, rfl, rfl, rfl, rfl, rfl, T9.out⟩
  have hX : Hid (Tab nb b (upd (upd (upd (upd (upd F 2 { st := some (tName nmd rsv) }) 4 { fl := some (tFree) }) 5 { nm := some (tAmount) }) 6 { st := some (tText) }) 7 { kd := some (tEach (tEither (tExpr) (tIs [8]))) }) (w9.setCells b 35 (#[.nilFunc, .nilFunc, .nilFunc, .nilFunc, (.func (.func f9) #[] c9)] : Array Value).toList) ∧ Kx b w9 (w9.setCells b 35 (#[.nilFunc, .nilFunc, .nilFunc, .nilFunc, (.func (.func f9) #[] c9)] : Array Value).toList)) := Lib.hid (HT.out.set 7 (by omega) hS)
  replace hS := Lib.hid hS.one
  go_wp2_with (refine wpList_store_mid rfl 63 _ _ rfl b 35 #[.nilFunc, .nilFunc, .nilFunc, .nilFunc, (.func (.func f9) #[] c9)] rfl rfl (HT.out.there 7 (by omega)) (by kernel_rfl) hS.out ?_; generalize w9.setCells b 35 (#[.nilFunc, .nilFunc, .nilFunc, .nilFunc, (.func (.func f9) #[] c9)] : Array Value).toList = w10 at hX ⊢; refine Hid.out ?_)
  clear hS
  clear T7 T8 T9
  replace T1 := Lib.hid (T1.out.abv (hX.out.2.abv hb))
  replace call0 := Lib.hid ((World.cell?_of_block (hX.out.2.block _ (cell_lt call0.out) (Nat.ne_of_gt hcall))).trans call0.out)
  replace call1 := Lib.hid ((World.cell?_of_block (hX.out.2.block _ (cell_lt call1.out) (Nat.ne_of_gt hcall))).trans call1.out)
  replace call2 := Lib.hid ((World.cell?_of_block (hX.out.2.block _ (cell_lt call2.out) (Nat.ne_of_gt hcall))).trans call2.out)
  replace call3 := Lib.hid ((World.cell?_of_block (hX.out.2.block _ (cell_lt call3.out) (Nat.ne_of_gt hcall))).trans call3.out)
  replace call4 := Lib.hid ((World.cell?_of_block (hX.out.2.block _ (cell_lt call4.out) (Nat.ne_of_gt hcall))).trans call4.out)
  replace HT := Lib.hid hX.out.1
  replace HK := Lib.hid (HK.out.trans hX.out.2)
  replace hn := HT.out.le
  clear hX
  refine Lib.hid ?_
  go_wp2_with fail
  refine (ais_any (nb := nb) [10, 11, 12] _ _ _ (Nat.le_trans hn (b1 _).size) hn (by simp) (new_cells [10, 11, 12] (fun k => .int .i64 k) w10 _)).mono ?_
  rintro e w11 ⟨v11, rfl, T11, b2⟩
  have hB : Below w10.heap.size w10 w11 := (b1 _).trans (b2.mono (b1 _).size)
  replace HT := Lib.hid (HT.out.on hB)
  replace HK := Lib.hid (HK.out.trans (Kx.of hB))
  replace hn := HT.out.le
  replace T1 := Lib.hid (T1.out.on hB)
  replace call0 := Lib.hid (cell_kept call0.out hB)
  replace call1 := Lib.hid (cell_kept call1.out hB)
  replace call2 := Lib.hid (cell_kept call2.out hB)
  replace call3 := Lib.hid (cell_kept call3.out hB)
  replace call4 := Lib.hid (cell_kept call4.out hB)
  obtain ⟨f11, c11, rfl⟩ := T11.func
  replace T11 := Lib.hid T11
  clear b2 hB
  go_wp2_with fail
  refine (aeach_any hn T11.out).mono ?_
  rintro e w12 ⟨v12, rfl, T12, b2⟩
  have hB : Below w11.heap.size w11 w12 := b2
  replace HT := Lib.hid (HT.out.on hB)
  replace HK := Lib.hid (HK.out.trans (Kx.of hB))
  replace hn := HT.out.le
  replace T1 := Lib.hid (T1.out.on hB)
  replace T11 := Lib.hid (T11.out.on hB)
  replace call0 := Lib.hid (cell_kept call0.out hB)
  replace call1 := Lib.hid (cell_kept call1.out hB)
  replace call2 := Lib.hid (cell_kept call2.out hB)
  replace call3 := Lib.hid (cell_kept call3.out hB)
  replace call4 := Lib.hid (cell_kept call4.out hB)
  obtain ⟨f12, c12, rfl⟩ := T12.func
  replace T12 := Lib.hid T12
  clear b2 hB
  have hS : ShpV nb w12 (#[.nilFunc, .nilFunc, .nilFunc, .nilFunc, (.func (.func f12) #[] c12)] : Array Value).toList { kd := some (tEach (tIs [10, 11, 12])) } := ⟨_, _, _, _, _, rfl, rfl, rfl, rfl, rfl, T12.out⟩
  have hX : Hid (Tab nb b (upd (upd (upd (upd (upd (upd F 2 { st := some (tName nmd rsv) }) 4 { fl := some (tFree) }) 5 { nm := some (tAmount) }) 6 { st := some (tText) }) 7 { kd := some (tEach (tEither (tExpr) (tIs [8]))) }) 9 { kd := some (tEach (tIs [10, 11, 12])) }) (w12.setCells b 45 (#[.nilFunc, .nilFunc, .nilFunc, .nilFunc, (.func (.func f12) #[] c12)] : Array Value).toList) ∧ Kx b w12 (w12.setCells b 45 (#[.nilFunc, .nilFunc, .nilFunc, .nilFunc, (.func (.func f12) #[] c12)] : Array Value).toList)) := Lib.hid (HT.out.set 9 (by omega) hS)
  replace hS := Lib.hid hS.one
  go_wp2_with (refine wpList_store_mid rfl 63 _ _ rfl b 45 #[.nilFunc, .nilFunc, .nilFunc, .nilFunc, (.func (.func f12) #[] c12)] rfl rfl (HT.out.there 9 (by omega)) (by kernel_rfl) hS.out ?_; generalize w12.setCells b 45 (#[.nilFunc, .nilFunc, .nilFunc, .nilFunc, (.func (.func f12) #[] c12)] : Array Value).toList = w13 at hX ⊢; refine Hid.out ?_)
  clear hS
  clear T11 T12
  replace T1 := Lib.hid (T1.out.abv (hX.out.2.abv hb))
  replace call0 := Lib.hid ((World.cell?_of_block (hX.out.2.block _ (cell_lt call0.out) (Nat.ne_of_gt hcall))).trans call0.out)
  replace call1 := Lib.hid ((World.cell?_of_block (hX.out.2.block _ (cell_lt call1.out) (Nat.ne_of_gt hcall))).trans call1.out)
  replace call2 := Lib.hid ((World.cell?_of_block (hX.out.2.block _ (cell_lt call2.out) (Nat.ne_of_gt hcall))).trans call2.out)
  replace call3 := Lib.hid ((World.cell?_of_block (hX.out.2.block _ (cell_lt call3.out) (Nat.ne_of_gt hcall))).trans call3.out)
  replace call4 := Lib.hid ((World.cell?_of_block (hX.out.2.block _ (cell_lt call4.out) (Nat.ne_of_gt hcall))).trans call4.out)
  replace HT := Lib.hid hX.out.1
  replace HK := Lib.hid (HK.out.trans hX.out.2)
  replace hn := HT.out.le
  clear hX
  refine Lib.hid ?_
  go_wp2_with fail
  refine (arow_any (nb := nb) [tExpr] _ _ _ (Nat.le_trans hn (b1 _).size) (new_tsts hn (vs := [(.func (.func 86) #[] #[])]) (ps := [tExpr]) _ ⟨(tst_expr _), trivial⟩ (by simp))).mono ?_
  rintro e w14 ⟨v14, rfl, T14, b2⟩
  have hB : Below w13.heap.size w13 w14 := (b1 _).trans (b2.mono (b1 _).size)
  replace HT := Lib.hid (HT.out.on hB)
  replace HK := Lib.hid (HK.out.trans (Kx.of hB))
  replace hn := HT.out.le
  replace T1 := Lib.hid (T1.out.on hB)
  replace call0 := Lib.hid (cell_kept call0.out hB)
  replace call1 := Lib.hid (cell_kept call1.out hB)
  replace call2 := Lib.hid (cell_kept call2.out hB)
  replace call3 := Lib.hid (cell_kept call3.out hB)
  replace call4 := Lib.hid (cell_kept call4.out hB)
  obtain ⟨f14, c14, rfl⟩ := T14.func
  replace T14 := Lib.hid T14
  clear b2 hB
  have hS : ShpV nb w14 (#[.nilFunc, (.func (.func 90) #[] #[]), .nilFunc, .nilFunc, (.func (.func f14) #[] c14)] : Array Value).toList { st := some (tText), kd := some (tRow [tExpr]) } := ⟨_, _, _, _, _, rfl, rfl, (tst_text _), rfl, rfl, T14.out⟩
  have hX : Hid (Tab nb b (upd (upd (upd (upd (upd (upd (upd F 2 { st := some (tName nmd rsv) }) 4 { fl := some (tFree) }) 5 { nm := some (tAmount) }) 6 { st := some (tText) }) 7 { kd := some (tEach (tEither (tExpr) (tIs [8]))) }) 9 { kd := some (tEach (tIs [10, 11, 12])) }) 10 { st := some (tText), kd := some (tRow [tExpr]) }) (w14.setCells b 50 (#[.nilFunc, (.func (.func 90) #[] #[]), .nilFunc, .nilFunc, (.func (.func f14) #[] c14)] : Array Value).toList) ∧ Kx b w14 (w14.setCells b 50 (#[.nilFunc, (.func (.func 90) #[] #[]), .nilFunc, .nilFunc, (.func (.func f14) #[] c14)] : Array Value).toList)) := Lib.hid (HT.out.set 10 (by omega) hS)
  replace hS := Lib.hid hS.one
  go_wp2_with (refine wpList_store_mid rfl 63 _ _ rfl b 50 #[.nilFunc, (.func (.func 90) #[] #[]), .nilFunc, .nilFunc, (.func (.func f14) #[] c14)] rfl rfl (HT.out.there 10 (by omega)) (by kernel_rfl) hS.out ?_; generalize w14.setCells b 50 (#[.nilFunc, (.func (.func 90) #[] #[]), .nilFunc, .nilFunc, (.func (.func f14) #[] c14)] : Array Value).toList = w15 at hX ⊢; refine Hid.out ?_)
  clear hS
  clear T14
  replace T1 := Lib.hid (T1.out.abv (hX.out.2.abv hb))
  replace call0 := Lib.hid ((World.cell?_of_block (hX.out.2.block _ (cell_lt call0.out) (Nat.ne_of_gt hcall))).trans call0.out)
  replace call1 := Lib.hid ((World.cell?_of_block (hX.out.2.block _ (cell_lt call1.out) (Nat.ne_of_gt hcall))).trans call1.out)
  replace call2 := Lib.hid ((World.cell?_of_block (hX.out.2.block _ (cell_lt call2.out) (Nat.ne_of_gt hcall))).trans call2.out)
  replace call3 := Lib.hid ((World.cell?_of_block (hX.out.2.block _ (cell_lt call3.out) (Nat.ne_of_gt hcall))).trans call3.out)
  replace call4 := Lib.hid ((World.cell?_of_block (hX.out.2.block _ (cell_lt call4.out) (Nat.ne_of_gt hcall))).trans call4.out)
  replace HT := Lib.hid hX.out.1
  replace HK := Lib.hid (HK.out.trans hX.out.2)
  replace hn := HT.out.le
  clear hX
  refine Lib.hid ?_
  go_wp2_with fail
  refine (aaccessor_any (nb := nb) 0 _ hn (by omega)).mono ?_
  rintro e w16 ⟨v16, rfl, T16, b2⟩
  have hB : Below w15.heap.size w15 w16 := b2
  replace HT := Lib.hid (HT.out.on hB)
  replace HK := Lib.hid (HK.out.trans (Kx.of hB))
  replace hn := HT.out.le
  replace T1 := Lib.hid (T1.out.on hB)
  replace call0 := Lib.hid (cell_kept call0.out hB)
  replace call1 := Lib.hid (cell_kept call1.out hB)
  replace call2 := Lib.hid (cell_kept call2.out hB)
  replace call3 := Lib.hid (cell_kept call3.out hB)
  replace call4 := Lib.hid (cell_kept call4.out hB)
  obtain ⟨f16, c16, rfl⟩ := T16.func
  replace T16 := Lib.hid T16
  clear b2 hB
  go_wp2_with fail
  refine (arow_any (nb := nb) [tAcc 0] _ _ _ (Nat.le_trans hn (b1 _).size) (new_tsts hn (vs := [(.func (.func f16) #[] c16)]) (ps := [tAcc 0]) _ ⟨T16.out, trivial⟩ (by simp))).mono ?_
  rintro e w17 ⟨v17, rfl, T17, b2⟩
  have hB : Below w16.heap.size w16 w17 := (b1 _).trans (b2.mono (b1 _).size)
  replace HT := Lib.hid (HT.out.on hB)
  replace HK := Lib.hid (HK.out.trans (Kx.of hB))
  replace hn := HT.out.le
  replace T1 := Lib.hid (T1.out.on hB)
  replace T16 := Lib.hid (T16.out.on hB)
  replace call0 := Lib.hid (cell_kept call0.out hB)
  replace call1 := Lib.hid (cell_kept call1.out hB)
  replace call2 := Lib.hid (cell_kept call2.out hB)
  replace call3 := Lib.hid (cell_kept call3.out hB)
  replace call4 := Lib.hid (cell_kept call4.out hB)
  obtain ⟨f17, c17, rfl⟩ := T17.func
  replace T17 := Lib.hid T17
  clear b2 hB
  have hS : ShpV nb w17 (#[.nilFunc, (.func (.func 90) #[] #[]), .nilFunc, .nilFunc, (.func (.func f17) #[] c17)] : Array Value).toList { st := some (tText), kd := some (tRow [tAcc 0]) } := ⟨_, _, _, _, _, rfl, rfl, (tst_text _), rfl, rfl, T17.out⟩
  have hX : Hid (Tab nb b (upd (upd (upd (upd (upd (upd (upd (upd F 2 { st := some (tName nmd rsv) }) 4 { fl := some (tFree) }) 5 { nm := some (tAmount) }) 6 { st := some (tText) }) 7 { kd := some (tEach (tEither (tExpr) (tIs [8]))) }) 9 { kd := some (tEach (tIs [10, 11, 12])) }) 10 { st := some (tText), kd := some (tRow [tExpr]) }) 11 { st := some (tText), kd := some (tRow [tAcc 0]) }) (w17.setCells b 55 (#[.nilFunc, (.func (.func 90) #[] #[]), .nilFunc, .nilFunc, (.func (.func f17) #[] c17)] : Array Value).toList) ∧ Kx b w17 (w17.setCells b 55 (#[.nilFunc, (.func (.func 90) #[] #[]), .nilFunc, .nilFunc, (.func (.func f17) #[] c17)] : Array Value).toList)) := Lib.hid (HT.out.set 11 (by omega) hS)
  replace hS := Lib.hid hS.one
  go_wp2_with (refine wpList_store_mid rfl 63 _ _ rfl b 55 #[.nilFunc, (.func (.func 90) #[] #[]), .nilFunc, .nilFunc, (.func (.func f17) #[] c17)] rfl rfl (HT.out.there 11 (by omega)) (by kernel_rfl) hS.out ?_; generalize w17.setCells b 55 (#[.nilFunc, (.func (.func 90) #[] #[]), .nilFunc, .nilFunc, (.func (.func f17) #[] c17)] : Array Value).toList = w18 at hX ⊢; refine Hid.out ?_)
  clear hS
  clear T16 T17
  replace T1 := Lib.hid (T1.out.abv (hX.out.2.abv hb))
  replace call0 := Lib.hid ((World.cell?_of_block (hX.out.2.block _ (cell_lt call0.out) (Nat.ne_of_gt hcall))).trans call0.out)
  replace call1 := Lib.hid ((World.cell?_of_block (hX.out.2.block _ (cell_lt call1.out) (Nat.ne_of_gt hcall))).trans call1.out)
  replace call2 := Lib.hid ((World.cell?_of_block (hX.out.2.block _ (cell_lt call2.out) (Nat.ne_of_gt hcall))).trans call2.out)
  replace call3 := Lib.hid ((World.cell?_of_block (hX.out.2.block _ (cell_lt call3.out) (Nat.ne_of_gt hcall))).trans call3.out)
  replace call4 := Lib.hid ((World.cell?_of_block (hX.out.2.block _ (cell_lt call4.out) (Nat.ne_of_gt hcall))).trans call4.out)
  replace HT := Lib.hid hX.out.1
  replace HK := Lib.hid (HK.out.trans hX.out.2)
  replace hn := HT.out.le
  clear hX
  refine Lib.hid ?_
  go_wp2_with fail
  refine (aaccessor_any (nb := nb) 1 _ hn (by omega)).mono ?_
  rintro e w19 ⟨v19, rfl, T19, b2⟩
  have hB : Below w18.heap.size w18 w19 := b2
  replace HT := Lib.hid (HT.out.on hB)
  replace HK := Lib.hid (HK.out.trans (Kx.of hB))
  replace hn := HT.out.le
  replace T1 := Lib.hid (T1.out.on hB)
  replace call0 := Lib.hid (cell_kept call0.out hB)
  replace call1 := Lib.hid (cell_kept call1.out hB)
  replace call2 := Lib.hid (cell_kept call2.out hB)
  replace call3 := Lib.hid (cell_kept call3.out hB)
  replace call4 := Lib.hid (cell_kept call4.out hB)
  obtain ⟨f19, c19, rfl⟩ := T19.func
  replace T19 := Lib.hid T19
  clear b2 hB
  go_wp2_with fail
  refine (arow_any (nb := nb) [tAcc 1] _ _ _ (Nat.le_trans hn (b1 _).size) (new_tsts hn (vs := [(.func (.func f19) #[] c19)]) (ps := [tAcc 1]) _ ⟨T19.out, trivial⟩ (by simp))).mono ?_
  rintro e w20 ⟨v20, rfl, T20, b2⟩
  have hB : Below w19.heap.size w19 w20 := (b1 _).trans (b2.mono (b1 _).size)
  replace HT := Lib.hid (HT.out.on hB)
  replace HK := Lib.hid (HK.out.trans (Kx.of hB))
  replace hn := HT.out.le
  replace T1 := Lib.hid (T1.out.on hB)
  replace T19 := Lib.hid (T19.out.on hB)
  replace call0 := Lib.hid (cell_kept call0.out hB)
  replace call1 := Lib.hid (cell_kept call1.out hB)
  replace call2 := Lib.hid (cell_kept call2.out hB)
  replace call3 := Lib.hid (cell_kept call3.out hB)
  replace call4 := Lib.hid (cell_kept call4.out hB)
  obtain ⟨f20, c20, rfl⟩ := T20.func
  replace T20 := Lib.hid T20
  clear b2 hB
  have hS : ShpV nb w20 (#[.nilFunc, (.func (.func 90) #[] #[]), .nilFunc, .nilFunc, (.func (.func f20) #[] c20)] : Array Value).toList { st := some (tText), kd := some (tRow [tAcc 1]) } := ⟨_, _, _, _, _, rfl, rfl, (tst_text _), rfl, rfl, T20.out⟩
  have hX : Hid (Tab nb b (upd (upd (upd (upd (upd (upd (upd (upd (upd F 2 { st := some (tName nmd rsv) }) 4 { fl := some (tFree) }) 5 { nm := some (tAmount) }) 6 { st := some (tText) }) 7 { kd := some (tEach (tEither (tExpr) (tIs [8]))) }) 9 { kd := some (tEach (tIs [10, 11, 12])) }) 10 { st := some (tText), kd := some (tRow [tExpr]) }) 11 { st := some (tText), kd := some (tRow [tAcc 0]) }) 12 { st := some (tText), kd := some (tRow [tAcc 1]) }) (w20.setCells b 60 (#[.nilFunc, (.func (.func 90) #[] #[]), .nilFunc, .nilFunc, (.func (.func f20) #[] c20)] : Array Value).toList) ∧ Kx b w20 (w20.setCells b 60 (#[.nilFunc, (.func (.func 90) #[] #[]), .nilFunc, .nilFunc, (.func (.func f20) #[] c20)] : Array Value).toList)) := Lib.hid (HT.out.set 12 (by omega) hS)
  replace hS := Lib.hid hS.one
  go_wp2_with (refine wpList_store_mid rfl 63 _ _ rfl b 60 #[.nilFunc, (.func (.func 90) #[] #[]), .nilFunc, .nilFunc, (.func (.func f20) #[] c20)] rfl rfl (HT.out.there 12 (by omega)) (by kernel_rfl) hS.out ?_; generalize w20.setCells b 60 (#[.nilFunc, (.func (.func 90) #[] #[]), .nilFunc, .nilFunc, (.func (.func f20) #[] c20)] : Array Value).toList = w21 at hX ⊢; refine Hid.out ?_)
  clear hS
  clear T19 T20
  replace T1 := Lib.hid (T1.out.abv (hX.out.2.abv hb))
  replace call0 := Lib.hid ((World.cell?_of_block (hX.out.2.block _ (cell_lt call0.out) (Nat.ne_of_gt hcall))).trans call0.out)
  replace call1 := Lib.hid ((World.cell?_of_block (hX.out.2.block _ (cell_lt call1.out) (Nat.ne_of_gt hcall))).trans call1.out)
  replace call2 := Lib.hid ((World.cell?_of_block (hX.out.2.block _ (cell_lt call2.out) (Nat.ne_of_gt hcall))).trans call2.out)
  replace call3 := Lib.hid ((World.cell?_of_block (hX.out.2.block _ (cell_lt call3.out) (Nat.ne_of_gt hcall))).trans call3.out)
  replace call4 := Lib.hid ((World.cell?_of_block (hX.out.2.block _ (cell_lt call4.out) (Nat.ne_of_gt hcall))).trans call4.out)
  replace HT := Lib.hid hX.out.1
  replace HK := Lib.hid (HK.out.trans hX.out.2)
  replace hn := HT.out.le
  clear hX
  refine Lib.hid ?_
  go_wp2_with fail
  refine (aeither_any hn (tst_unnamed _) (tst_name HL.out _)).mono ?_
  rintro e w22 ⟨v22, rfl, T22, b2⟩
  have hB : Below w21.heap.size w21 w22 := b2
  replace HT := Lib.hid (HT.out.on hB)
  replace HK := Lib.hid (HK.out.trans (Kx.of hB))
  replace hn := HT.out.le
  replace T1 := Lib.hid (T1.out.on hB)
  replace call0 := Lib.hid (cell_kept call0.out hB)
  replace call1 := Lib.hid (cell_kept call1.out hB)
  replace call2 := Lib.hid (cell_kept call2.out hB)
  replace call3 := Lib.hid (cell_kept call3.out hB)
  replace call4 := Lib.hid (cell_kept call4.out hB)
  obtain ⟨f22, c22, rfl⟩ := T22.func
  replace T22 := Lib.hid T22
  clear b2 hB
  go_wp2_with fail
  refine (ais_any (nb := nb) [2] _ _ _ (Nat.le_trans hn (b1 _).size) hn (by simp) (new_cells [2] (fun k => .int .i64 k) w22 _)).mono ?_
  rintro e w23 ⟨v23, rfl, T23, b2⟩
  have hB : Below w22.heap.size w22 w23 := (b1 _).trans (b2.mono (b1 _).size)
  replace HT := Lib.hid (HT.out.on hB)
  replace HK := Lib.hid (HK.out.trans (Kx.of hB))
  replace hn := HT.out.le
  replace T1 := Lib.hid (T1.out.on hB)
  replace T22 := Lib.hid (T22.out.on hB)
  replace call0 := Lib.hid (cell_kept call0.out hB)
  replace call1 := Lib.hid (cell_kept call1.out hB)
  replace call2 := Lib.hid (cell_kept call2.out hB)
  replace call3 := Lib.hid (cell_kept call3.out hB)
  replace call4 := Lib.hid (cell_kept call4.out hB)
  obtain ⟨f23, c23, rfl⟩ := T23.func
  replace T23 := Lib.hid T23
  clear b2 hB
  go_wp2_with fail
  refine (ais_any (nb := nb) [41] _ _ _ (Nat.le_trans hn (b1 _).size) hn (by simp) (new_cells [41] (fun k => .int .i64 k) w23 _)).mono ?_
  rintro e w24 ⟨v24, rfl, T24, b2⟩
  have hB : Below w23.heap.size w23 w24 := (b1 _).trans (b2.mono (b1 _).size)
  replace HT := Lib.hid (HT.out.on hB)
  replace HK := Lib.hid (HK.out.trans (Kx.of hB))
  replace hn := HT.out.le
  replace T1 := Lib.hid (T1.out.on hB)
  replace T22 := Lib.hid (T22.out.on hB)
  replace T23 := Lib.hid (T23.out.on hB)
  replace call0 := Lib.hid (cell_kept call0.out hB)
  replace call1 := Lib.hid (cell_kept call1.out hB)
  replace call2 := Lib.hid (cell_kept call2.out hB)
  replace call3 := Lib.hid (cell_kept call3.out hB)
  replace call4 := Lib.hid (cell_kept call4.out hB)
  obtain ⟨f24, c24, rfl⟩ := T24.func
  replace T24 := Lib.hid T24
  clear b2 hB
  go_wp2_with fail
  refine (alast_any hn T23.out T24.out).mono ?_
  rintro e w25 ⟨v25, rfl, T25, b2⟩
  have hB : Below w24.heap.size w24 w25 := b2
  replace HT := Lib.hid (HT.out.on hB)
  replace HK := Lib.hid (HK.out.trans (Kx.of hB))
  replace hn := HT.out.le
  replace T1 := Lib.hid (T1.out.on hB)
  replace T22 := Lib.hid (T22.out.on hB)
  replace T23 := Lib.hid (T23.out.on hB)
  replace T24 := Lib.hid (T24.out.on hB)
  replace call0 := Lib.hid (cell_kept call0.out hB)
  replace call1 := Lib.hid (cell_kept call1.out hB)
  replace call2 := Lib.hid (cell_kept call2.out hB)
  replace call3 := Lib.hid (cell_kept call3.out hB)
  replace call4 := Lib.hid (cell_kept call4.out hB)
  obtain ⟨f25, c25, rfl⟩ := T25.func
  replace T25 := Lib.hid T25
  clear b2 hB
  have hS : ShpV nb w25 (#[.nilFunc, (.func (.func f22) #[] c22), .nilFunc, .nilFunc, (.func (.func f25) #[] c25)] : Array Value).toList { st := some (tEither (tUnnamed) (tName nmd rsv)), kd := some (tLast (tIs [2]) (tIs [41])) } := ⟨_, _, _, _, _, rfl, rfl, T22.out, rfl, rfl, T25.out⟩
  have hX : Hid (Tab nb b (upd (upd (upd (upd (upd (upd (upd (upd (upd (upd F 2 { st := some (tName nmd rsv) }) 4 { fl := some (tFree) }) 5 { nm := some (tAmount) }) 6 { st := some (tText) }) 7 { kd := some (tEach (tEither (tExpr) (tIs [8]))) }) 9 { kd := some (tEach (tIs [10, 11, 12])) }) 10 { st := some (tText), kd := some (tRow [tExpr]) }) 11 { st := some (tText), kd := some (tRow [tAcc 0]) }) 12 { st := some (tText), kd := some (tRow [tAcc 1]) }) 13 { st := some (tEither (tUnnamed) (tName nmd rsv)), kd := some (tLast (tIs [2]) (tIs [41])) }) (w25.setCells b 65 (#[.nilFunc, (.func (.func f22) #[] c22), .nilFunc, .nilFunc, (.func (.func f25) #[] c25)] : Array Value).toList) ∧ Kx b w25 (w25.setCells b 65 (#[.nilFunc, (.func (.func f22) #[] c22), .nilFunc, .nilFunc, (.func (.func f25) #[] c25)] : Array Value).toList)) := Lib.hid (HT.out.set 13 (by omega) hS)
  replace hS := Lib.hid hS.one
  go_wp2_with (refine wpList_store_mid rfl 63 _ _ rfl b 65 #[.nilFunc, (.func (.func f22) #[] c22), .nilFunc, .nilFunc, (.func (.func f25) #[] c25)] rfl rfl (HT.out.there 13 (by omega)) (by kernel_rfl) hS.out ?_; generalize w25.setCells b 65 (#[.nilFunc, (.func (.func f22) #[] c22), .nilFunc, .nilFunc, (.func (.func f25) #[] c25)] : Array Value).toList = w26 at hX ⊢; refine Hid.out ?_)
  clear hS
  clear T22 T23 T24 T25
  replace T1 := Lib.hid (T1.out.abv (hX.out.2.abv hb))
  replace call0 := Lib.hid ((World.cell?_of_block (hX.out.2.block _ (cell_lt call0.out) (Nat.ne_of_gt hcall))).trans call0.out)
  replace call1 := Lib.hid ((World.cell?_of_block (hX.out.2.block _ (cell_lt call1.out) (Nat.ne_of_gt hcall))).trans call1.out)
  replace call2 := Lib.hid ((World.cell?_of_block (hX.out.2.block _ (cell_lt call2.out) (Nat.ne_of_gt hcall))).trans call2.out)
  replace call3 := Lib.hid ((World.cell?_of_block (hX.out.2.block _ (cell_lt call3.out) (Nat.ne_of_gt hcall))).trans call3.out)
  replace call4 := Lib.hid ((World.cell?_of_block (hX.out.2.block _ (cell_lt call4.out) (Nat.ne_of_gt hcall))).trans call4.out)
  replace HT := Lib.hid hX.out.1
  replace HK := Lib.hid (HK.out.trans hX.out.2)
  replace hn := HT.out.le
  clear hX
  refine Lib.hid ?_
  go_wp2_with fail
  refine (arow_any (nb := nb) [tExpr] _ _ _ (Nat.le_trans hn (b1 _).size) (new_tsts hn (vs := [(.func (.func 86) #[] #[])]) (ps := [tExpr]) _ ⟨(tst_expr _), trivial⟩ (by simp))).mono ?_
  rintro e w27 ⟨v27, rfl, T27, b2⟩
  have hB : Below w26.heap.size w26 w27 := (b1 _).trans (b2.mono (b1 _).size)
  replace HT := Lib.hid (HT.out.on hB)
  replace HK := Lib.hid (HK.out.trans (Kx.of hB))
  replace hn := HT.out.le
  replace T1 := Lib.hid (T1.out.on hB)
  replace call0 := Lib.hid (cell_kept call0.out hB)
  replace call1 := Lib.hid (cell_kept call1.out hB)
  replace call2 := Lib.hid (cell_kept call2.out hB)
  replace call3 := Lib.hid (cell_kept call3.out hB)
  replace call4 := Lib.hid (cell_kept call4.out hB)
  obtain ⟨f27, c27, rfl⟩ := T27.func
  replace T27 := Lib.hid T27
  clear b2 hB
  have hS : ShpV nb w27 (#[.nilFunc, (.func (.func 98) #[] #[]), .nilFunc, .nilFunc, (.func (.func f27) #[] c27)] : Array Value).toList { st := some (tMember nmd), kd := some (tRow [tExpr]) } := ⟨_, _, _, _, _, rfl, rfl, (tst_member HL.out _), rfl, rfl, T27.out⟩
  have hX : Hid (Tab nb b (upd (upd (upd (upd (upd (upd (upd (upd (upd (upd (upd F 2 { st := some (tName nmd rsv) }) 4 { fl := some (tFree) }) 5 { nm := some (tAmount) }) 6 { st := some (tText) }) 7 { kd := some (tEach (tEither (tExpr) (tIs [8]))) }) 9 { kd := some (tEach (tIs [10, 11, 12])) }) 10 { st := some (tText), kd := some (tRow [tExpr]) }) 11 { st := some (tText), kd := some (tRow [tAcc 0]) }) 12 { st := some (tText), kd := some (tRow [tAcc 1]) }) 13 { st := some (tEither (tUnnamed) (tName nmd rsv)), kd := some (tLast (tIs [2]) (tIs [41])) }) 14 { st := some (tMember nmd), kd := some (tRow [tExpr]) }) (w27.setCells b 70 (#[.nilFunc, (.func (.func 98) #[] #[]), .nilFunc, .nilFunc, (.func (.func f27) #[] c27)] : Array Value).toList) ∧ Kx b w27 (w27.setCells b 70 (#[.nilFunc, (.func (.func 98) #[] #[]), .nilFunc, .nilFunc, (.func (.func f27) #[] c27)] : Array Value).toList)) := Lib.hid (HT.out.set 14 (by omega) hS)
  replace hS := Lib.hid hS.one
  go_wp2_with (refine wpList_store_mid rfl 63 _ _ rfl b 70 #[.nilFunc, (.func (.func 98) #[] #[]), .nilFunc, .nilFunc, (.func (.func f27) #[] c27)] rfl rfl (HT.out.there 14 (by omega)) (by kernel_rfl) hS.out ?_; generalize w27.setCells b 70 (#[.nilFunc, (.func (.func 98) #[] #[]), .nilFunc, .nilFunc, (.func (.func f27) #[] c27)] : Array Value).toList = w28 at hX ⊢; refine Hid.out ?_)
  clear hS
  clear T27
  replace T1 := Lib.hid (T1.out.abv (hX.out.2.abv hb))
  replace call0 := Lib.hid ((World.cell?_of_block (hX.out.2.block _ (cell_lt call0.out) (Nat.ne_of_gt hcall))).trans call0.out)
  replace call1 := Lib.hid ((World.cell?_of_block (hX.out.2.block _ (cell_lt call1.out) (Nat.ne_of_gt hcall))).trans call1.out)
  replace call2 := Lib.hid ((World.cell?_of_block (hX.out.2.block _ (cell_lt call2.out) (Nat.ne_of_gt hcall))).trans call2.out)
  replace call3 := Lib.hid ((World.cell?_of_block (hX.out.2.block _ (cell_lt call3.out) (Nat.ne_of_gt hcall))).trans call3.out)
  replace call4 := Lib.hid ((World.cell?_of_block (hX.out.2.block _ (cell_lt call4.out) (Nat.ne_of_gt hcall))).trans call4.out)
  replace HT := Lib.hid hX.out.1
  replace HK := Lib.hid (HK.out.trans hX.out.2)
  replace hn := HT.out.le
  clear hX
  refine Lib.hid ?_
  go_wp2_with fail
  refine (arow_any (nb := nb) [tExpr, tExpr] _ _ _ (Nat.le_trans hn (b1 _).size) (new_tsts hn (vs := [(.func (.func 86) #[] #[]), (.func (.func 86) #[] #[])]) (ps := [tExpr, tExpr]) _ ⟨(tst_expr _), (tst_expr _), trivial⟩ (by simp))).mono ?_
  rintro e w29 ⟨v29, rfl, T29, b2⟩
  have hB : Below w28.heap.size w28 w29 := (b1 _).trans (b2.mono (b1 _).size)
  replace HT := Lib.hid (HT.out.on hB)
  replace HK := Lib.hid (HK.out.trans (Kx.of hB))
  replace hn := HT.out.le
  replace T1 := Lib.hid (T1.out.on hB)
  replace call0 := Lib.hid (cell_kept call0.out hB)
  replace call1 := Lib.hid (cell_kept call1.out hB)
  replace call2 := Lib.hid (cell_kept call2.out hB)
  replace call3 := Lib.hid (cell_kept call3.out hB)
  replace call4 := Lib.hid (cell_kept call4.out hB)
  obtain ⟨f29, c29, rfl⟩ := T29.func
  replace T29 := Lib.hid T29
  clear b2 hB
  have hS : ShpV nb w29 (#[.nilFunc, .nilFunc, .nilFunc, .nilFunc, (.func (.func f29) #[] c29)] : Array Value).toList { kd := some (tRow [tExpr, tExpr]) } := ⟨_, _, _, _, _, rfl, rfl, rfl, rfl, rfl, T29.out⟩
  have hX : Hid (Tab nb b (upd (upd (upd (upd (upd (upd (upd (upd (upd (upd (upd (upd F 2 { st := some (tName nmd rsv) }) 4 { fl := some (tFree) }) 5 { nm := some (tAmount) }) 6 { st := some (tText) }) 7 { kd := some (tEach (tEither (tExpr) (tIs [8]))) }) 9 { kd := some (tEach (tIs [10, 11, 12])) }) 10 { st := some (tText), kd := some (tRow [tExpr]) }) 11 { st := some (tText), kd := some (tRow [tAcc 0]) }) 12 { st := some (tText), kd := some (tRow [tAcc 1]) }) 13 { st := some (tEither (tUnnamed) (tName nmd rsv)), kd := some (tLast (tIs [2]) (tIs [41])) }) 14 { st := some (tMember nmd), kd := some (tRow [tExpr]) }) 15 { kd := some (tRow [tExpr, tExpr]) }) (w29.setCells b 75 (#[.nilFunc, .nilFunc, .nilFunc, .nilFunc, (.func (.func f29) #[] c29)] : Array Value).toList) ∧ Kx b w29 (w29.setCells b 75 (#[.nilFunc, .nilFunc, .nilFunc, .nilFunc, (.func (.func f29) #[] c29)] : Array Value).toList)) := Lib.hid (HT.out.set 15 (by omega) hS)
  replace hS := Lib.hid hS.one
  go_wp2_with (refine wpList_store_mid rfl 63 _ _ rfl b 75 #[.nilFunc, .nilFunc, .nilFunc, .nilFunc, (.func (.func f29) #[] c29)] rfl rfl (HT.out.there 15 (by omega)) (by kernel_rfl) hS.out ?_; generalize w29.setCells b 75 (#[.nilFunc, .nilFunc, .nilFunc, .nilFunc, (.func (.func f29) #[] c29)] : Array Value).toList = w30 at hX ⊢; refine Hid.out ?_)
  clear hS
  clear T29
  replace T1 := Lib.hid (T1.out.abv (hX.out.2.abv hb))
  replace call0 := Lib.hid ((World.cell?_of_block (hX.out.2.block _ (cell_lt call0.out) (Nat.ne_of_gt hcall))).trans call0.out)
  replace call1 := Lib.hid ((World.cell?_of_block (hX.out.2.block _ (cell_lt call1.out) (Nat.ne_of_gt hcall))).trans call1.out)
  replace call2 := Lib.hid ((World.cell?_of_block (hX.out.2.block _ (cell_lt call2.out) (Nat.ne_of_gt hcall))).trans call2.out)
  replace call3 := Lib.hid ((World.cell?_of_block (hX.out.2.block _ (cell_lt call3.out) (Nat.ne_of_gt hcall))).trans call3.out)
  replace call4 := Lib.hid ((World.cell?_of_block (hX.out.2.block _ (cell_lt call4.out) (Nat.ne_of_gt hcall))).trans call4.out)
  replace HT := Lib.hid hX.out.1
  replace HK := Lib.hid (HK.out.trans hX.out.2)
  replace hn := HT.out.le
  clear hX
  refine Lib.hid ?_
  have hS : ShpV nb w30 (#[.nilFunc, .nilFunc, .nilFunc, .nilFunc, (.func (.func f1) #[] c1)] : Array Value).toList { kd := some (tFirst (tExpr) (tExpr)) } := ⟨_, _, _, _, _, rfl, rfl, rfl, rfl, rfl, T1.out⟩
  have hX : Hid (Tab nb b (upd (upd (upd (upd (upd (upd (upd (upd (upd (upd (upd (upd (upd F 2 { st := some (tName nmd rsv) }) 4 { fl := some (tFree) }) 5 { nm := some (tAmount) }) 6 { st := some (tText) }) 7 { kd := some (tEach (tEither (tExpr) (tIs [8]))) }) 9 { kd := some (tEach (tIs [10, 11, 12])) }) 10 { st := some (tText), kd := some (tRow [tExpr]) }) 11 { st := some (tText), kd := some (tRow [tAcc 0]) }) 12 { st := some (tText), kd := some (tRow [tAcc 1]) }) 13 { st := some (tEither (tUnnamed) (tName nmd rsv)), kd := some (tLast (tIs [2]) (tIs [41])) }) 14 { st := some (tMember nmd), kd := some (tRow [tExpr]) }) 15 { kd := some (tRow [tExpr, tExpr]) }) 16 { kd := some (tFirst (tExpr) (tExpr)) }) (w30.setCells b 80 (#[.nilFunc, .nilFunc, .nilFunc, .nilFunc, (.func (.func f1) #[] c1)] : Array Value).toList) ∧ Kx b w30 (w30.setCells b 80 (#[.nilFunc, .nilFunc, .nilFunc, .nilFunc, (.func (.func f1) #[] c1)] : Array Value).toList)) := Lib.hid (HT.out.set 16 (by omega) hS)
  replace hS := Lib.hid hS.one
  have ccall0 := call0.out
  have ccall1 := call1.out
  have ccall2 := call2.out
  have ccall3 := call3.out
  have ccall4 := call4.out
  go_wp2_with (refine wpList_store_mid rfl 63 _ _ rfl b 80 #[.nilFunc, .nilFunc, .nilFunc, .nilFunc, (.func (.func f1) #[] c1)] rfl rfl (HT.out.there 16 (by omega)) (by kernel_rfl) hS.out ?_; generalize w30.setCells b 80 (#[.nilFunc, .nilFunc, .nilFunc, .nilFunc, (.func (.func f1) #[] c1)] : Array Value).toList = w31 at hX ⊢; refine Hid.out ?_)
  clear hS ccall0 ccall1 ccall2 ccall3 ccall4
  replace T1 := Lib.hid (T1.out.abv (hX.out.2.abv hb))
  replace call0 := Lib.hid ((World.cell?_of_block (hX.out.2.block _ (cell_lt call0.out) (Nat.ne_of_gt hcall))).trans call0.out)
  replace call1 := Lib.hid ((World.cell?_of_block (hX.out.2.block _ (cell_lt call1.out) (Nat.ne_of_gt hcall))).trans call1.out)
  replace call2 := Lib.hid ((World.cell?_of_block (hX.out.2.block _ (cell_lt call2.out) (Nat.ne_of_gt hcall))).trans call2.out)
  replace call3 := Lib.hid ((World.cell?_of_block (hX.out.2.block _ (cell_lt call3.out) (Nat.ne_of_gt hcall))).trans call3.out)
  replace call4 := Lib.hid ((World.cell?_of_block (hX.out.2.block _ (cell_lt call4.out) (Nat.ne_of_gt hcall))).trans call4.out)
  replace HT := Lib.hid hX.out.1
  replace HK := Lib.hid (HK.out.trans hX.out.2)
  replace hn := HT.out.le
  clear hX
  refine Lib.hid ?_
  have hS : ShpV nb w31 (#[.nilFunc, .nilFunc, .nilFunc, .nilFunc, (.func (.func f1) #[] c1)] : Array Value).toList { kd := some (tFirst (tExpr) (tExpr)) } := ⟨_, _, _, _, _, rfl, rfl, rfl, rfl, rfl, T1.out⟩
  have hX : Hid (Tab nb b (upd (upd (upd (upd (upd (upd (upd (upd (upd (upd (upd (upd (upd (upd F 2 { st := some (tName nmd rsv) }) 4 { fl := some (tFree) }) 5 { nm := some (tAmount) }) 6 { st := some (tText) }) 7 { kd := some (tEach (tEither (tExpr) (tIs [8]))) }) 9 { kd := some (tEach (tIs [10, 11, 12])) }) 10 { st := some (tText), kd := some (tRow [tExpr]) }) 11 { st := some (tText), kd := some (tRow [tAcc 0]) }) 12 { st := some (tText), kd := some (tRow [tAcc 1]) }) 13 { st := some (tEither (tUnnamed) (tName nmd rsv)), kd := some (tLast (tIs [2]) (tIs [41])) }) 14 { st := some (tMember nmd), kd := some (tRow [tExpr]) }) 15 { kd := some (tRow [tExpr, tExpr]) }) 16 { kd := some (tFirst (tExpr) (tExpr)) }) 17 { kd := some (tFirst (tExpr) (tExpr)) }) (w31.setCells b 85 (#[.nilFunc, .nilFunc, .nilFunc, .nilFunc, (.func (.func f1) #[] c1)] : Array Value).toList) ∧ Kx b w31 (w31.setCells b 85 (#[.nilFunc, .nilFunc, .nilFunc, .nilFunc, (.func (.func f1) #[] c1)] : Array Value).toList)) := Lib.hid (HT.out.set 17 (by omega) hS)
  replace hS := Lib.hid hS.one
  have ccall0 := call0.out
  have ccall1 := call1.out
  have ccall2 := call2.out
  have ccall3 := call3.out
  have ccall4 := call4.out
  go_wp2_with (refine wpList_store_mid rfl 63 _ _ rfl b 85 #[.nilFunc, .nilFunc, .nilFunc, .nilFunc, (.func (.func f1) #[] c1)] rfl rfl (HT.out.there 17 (by omega)) (by kernel_rfl) hS.out ?_; generalize w31.setCells b 85 (#[.nilFunc, .nilFunc, .nilFunc, .nilFunc, (.func (.func f1) #[] c1)] : Array Value).toList = w32 at hX ⊢; refine Hid.out ?_)
  clear hS ccall0 ccall1 ccall2 ccall3 ccall4
  replace T1 := Lib.hid (T1.out.abv (hX.out.2.abv hb))
  replace call0 := Lib.hid ((World.cell?_of_block (hX.out.2.block _ (cell_lt call0.out) (Nat.ne_of_gt hcall))).trans call0.out)
  replace call1 := Lib.hid ((World.cell?_of_block (hX.out.2.block _ (cell_lt call1.out) (Nat.ne_of_gt hcall))).trans call1.out)
  replace call2 := Lib.hid ((World.cell?_of_block (hX.out.2.block _ (cell_lt call2.out) (Nat.ne_of_gt hcall))).trans call2.out)
  replace call3 := Lib.hid ((World.cell?_of_block (hX.out.2.block _ (cell_lt call3.out) (Nat.ne_of_gt hcall))).trans call3.out)
  replace call4 := Lib.hid ((World.cell?_of_block (hX.out.2.block _ (cell_lt call4.out) (Nat.ne_of_gt hcall))).trans call4.out)
  replace HT := Lib.hid hX.out.1
  replace HK := Lib.hid (HK.out.trans hX.out.2)
  replace hn := HT.out.le
  clear hX
  refine Lib.hid ?_
  go_wp2
  go_end0
  exact ⟨⟨_, rfl⟩, HT.out, HK.out⟩
end Go.Proofs.YtfpmhahjemdodaaGreatDoor
