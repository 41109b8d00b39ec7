/-
  The program's shapeSimple.
-/
import Derived.Test.YtfpmhahjemdodaaGreatDoorJ18
namespace Go.Proofs.YtfpmhahjemdodaaGreatDoor
open Go.RowKit Go.Shelf
attribute [local go_sem] stFl hmf
set_option maxRecDepth 100000 in
set_option maxHeartbeats 4000000 in
theorem ashapeSimple_any {nmd rsv : ByteArray → Bool} (hL : Lx nmd rsv) {nb b : Nat} {F : Nat → Shp} (W : World) (hT : Tab nb b F W) :
    Calls Tryz.prog 32 #[.slice (some ⟨b, 0, none⟩) 63 63] W fun e w' => (∃ v, e = .returned v) ∧ Tab nb b (upd (upd (upd (upd (upd (upd (upd (upd (upd (upd F 40 { kd := some (tEach (tEither (tStat) (tIs [42]))) }) 41 { kd := some (tEach (tEither (tStat) (tIs [42]))) }) 42 { st := some (tName nmd rsv), kd := some (tLast (tIs [2]) (tIs [41])) }) 44 { kd := some (tFirst (tIs [45]) (tIs [45])) }) 45 { st := some (tName nmd rsv), kd := some (tEither (tRow []) (tRow [tExpr])) }) 47 { kd := some (tRow [tExpr]) }) 53 { st := some (tEither (tUnnamed) (tName nmd rsv)) }) 54 { st := some (tEither (tUnnamed) (tName nmd rsv)) }) 55 { kd := some (tEither (tRow []) (tRow [tExpr])) }) 59 { kd := some (tRow [tExpr]) }) w' ∧ Kx b W w' := by
  have hn := hT.le
  have hb := hT.lt
  have HT := Lib.hid hT
  have HK := Lib.hid (Kx.refl b W)
  have HL := Lib.hid hL
  clear hT hL
  go_enter Tryz.func32, Tryz.ntmps32
  go_wp2_with fail
  refine (ais_any (nb := nb) [42] _ _ _ (Nat.le_trans hn (b1 _).size) hn (by simp) (new_cells [42] (fun k => .int .i64 k) W _)).mono ?_
  rintro e w1 ⟨v1, rfl, T1, b2⟩
  have hB : Below W.heap.size W w1 := (b1 _).trans (b2.mono (b1 _).size)
  replace HT := Lib.hid (HT.out.on hB)
  replace HK := Lib.hid (HK.out.trans (Kx.of hB))
  replace hn := HT.out.le
  obtain ⟨f1, c1, rfl⟩ := T1.func
  replace T1 := Lib.hid T1
  clear b2 hB
  go_wp2_with fail
  refine (aeither_any hn (tst_stat _) T1.out).mono ?_
  rintro e w2 ⟨v2, rfl, T2, b2⟩
  have hB : Below w1.heap.size w1 w2 := b2
  replace HT := Lib.hid (HT.out.on hB)
  replace HK := Lib.hid (HK.out.trans (Kx.of hB))
  replace hn := HT.out.le
  replace T1 := Lib.hid (T1.out.on hB)
  obtain ⟨f2, c2, rfl⟩ := T2.func
  replace T2 := Lib.hid T2
  clear b2 hB
  go_wp2_with fail
  refine (aeach_any hn T2.out).mono ?_
  rintro e w3 ⟨v3, rfl, T3, b2⟩
  have hB : Below w2.heap.size w2 w3 := b2
  replace HT := Lib.hid (HT.out.on hB)
  replace HK := Lib.hid (HK.out.trans (Kx.of hB))
  replace hn := HT.out.le
  replace T1 := Lib.hid (T1.out.on hB)
  replace T2 := Lib.hid (T2.out.on hB)
  obtain ⟨f3, c3, rfl⟩ := T3.func
  replace T3 := Lib.hid T3
  clear b2 hB
  have hS : ShpV nb w3 (#[.nilFunc, .nilFunc, .nilFunc, .nilFunc, (.func (.func f3) #[] c3)] : Array Value).toList { kd := some (tEach (tEither (tStat) (tIs [42]))) } := ⟨_, _, _, _, _, rfl, rfl, rfl, rfl, rfl, T3.out⟩
  replace hS := Lib.hid hS.one
  have hY := Lib.hid (new_shape w3 .nilFunc .nilFunc .nilFunc .nilFunc (.func (.func f3) #[] c3) 63)
  have hcode : b < w3.heap.size := Nat.lt_of_lt_of_le hb hn
  go_wp2_with (refine wpList_store_mid rfl 63 _ _ rfl w3.heap.size 0 #[.nilFunc, .nilFunc, .nilFunc, .nilFunc, (.func (.func f3) #[] c3)] rfl rfl hY.out.1 (by kernel_rfl) hS.out ?_; generalize World.setCells (w3.alloc (.cells #[.nilFunc, .nilFunc, .nilFunc, .nilFunc, .nilFunc] 63)) w3.heap.size 0 (#[.nilFunc, .nilFunc, .nilFunc, .nilFunc, (.func (.func f3) #[] c3)] : Array Value).toList = w4 at hY ⊢; refine Hid.out ?_)
  have hB : Below w3.heap.size w3 w4 := hY.out.2.1
  replace HT := Lib.hid (HT.out.on hB)
  replace HK := Lib.hid (HK.out.trans (Kx.of hB))
  replace hn := HT.out.le
  clear T1 T2
  replace T3 := Lib.hid (T3.out.on hB)
  obtain ⟨r0, r1, r2, r3, r4⟩ := hY.out.2.2
  have code0 := Lib.hid r0
  have code1 := Lib.hid r1
  have code2 := Lib.hid r2
  have code3 := Lib.hid r3
  have code4 := Lib.hid r4
  clear hS hY hB r0 r1 r2 r3 r4
  refine Lib.hid ?_
  go_wp2_with fail
  refine (aeither_any hn (tst_unnamed _) (tst_name HL.out _)).mono ?_
  rintro e w5 ⟨v5, rfl, T5, b2⟩
  have hB : Below w4.heap.size w4 w5 := b2
  replace HT := Lib.hid (HT.out.on hB)
  replace HK := Lib.hid (HK.out.trans (Kx.of hB))
  replace hn := HT.out.le
  replace T3 := Lib.hid (T3.out.on hB)
  replace code0 := Lib.hid (cell_kept code0.out hB)
  replace code1 := Lib.hid (cell_kept code1.out hB)
  replace code2 := Lib.hid (cell_kept code2.out hB)
  replace code3 := Lib.hid (cell_kept code3.out hB)
  replace code4 := Lib.hid (cell_kept code4.out hB)
  obtain ⟨f5, c5, rfl⟩ := T5.func
  replace T5 := Lib.hid T5
  clear b2 hB
  have hS : ShpV nb w5 (#[.nilFunc, (.func (.func f5) #[] c5), .nilFunc, .nilFunc, .nilFunc] : Array Value).toList { st := some (tEither (tUnnamed) (tName nmd rsv)) } := ⟨_, _, _, _, _, rfl, rfl, T5.out, rfl, rfl, rfl⟩
  replace hS := Lib.hid hS.one
  have hY := Lib.hid (new_shape w5 .nilFunc (.func (.func f5) #[] c5) .nilFunc .nilFunc .nilFunc 63)
  have hjump : b < w5.heap.size := Nat.lt_of_lt_of_le hb hn
  go_wp2_with (refine wpList_store_mid rfl 63 _ _ rfl w5.heap.size 0 #[.nilFunc, (.func (.func f5) #[] c5), .nilFunc, .nilFunc, .nilFunc] rfl rfl hY.out.1 (by kernel_rfl) hS.out ?_; generalize World.setCells (w5.alloc (.cells #[.nilFunc, .nilFunc, .nilFunc, .nilFunc, .nilFunc] 63)) w5.heap.size 0 (#[.nilFunc, (.func (.func f5) #[] c5), .nilFunc, .nilFunc, .nilFunc] : Array Value).toList = w6 at hY ⊢; refine Hid.out ?_)
  have hB : Below w5.heap.size w5 w6 := hY.out.2.1
  replace HT := Lib.hid (HT.out.on hB)
  replace HK := Lib.hid (HK.out.trans (Kx.of hB))
  replace hn := HT.out.le
  replace T3 := Lib.hid (T3.out.on hB)
  replace T5 := Lib.hid (T5.out.on hB)
  replace code0 := Lib.hid (cell_kept code0.out hB)
  replace code1 := Lib.hid (cell_kept code1.out hB)
  replace code2 := Lib.hid (cell_kept code2.out hB)
  replace code3 := Lib.hid (cell_kept code3.out hB)
  replace code4 := Lib.hid (cell_kept code4.out hB)
  obtain ⟨r0, r1, r2, r3, r4⟩ := hY.out.2.2
  have jump0 := Lib.hid r0
  have jump1 := Lib.hid r1
  have jump2 := Lib.hid r2
  have jump3 := Lib.hid r3
  have jump4 := Lib.hid r4
  clear hS hY hB r0 r1 r2 r3 r4
  refine Lib.hid ?_
  have hS : ShpV nb w6 (#[.nilFunc, .nilFunc, .nilFunc, .nilFunc, (.func (.func f3) #[] c3)] : Array Value).toList { kd := some (tEach (tEither (tStat) (tIs [42]))) } := ⟨_, _, _, _, _, rfl, rfl, rfl, rfl, rfl, T3.out⟩
  have hX : Hid (Tab nb b (upd F 40 { kd := some (tEach (tEither (tStat) (tIs [42]))) }) (w6.setCells b 200 (#[.nilFunc, .nilFunc, .nilFunc, .nilFunc, (.func (.func f3) #[] c3)] : Array Value).toList) ∧ Kx b w6 (w6.setCells b 200 (#[.nilFunc, .nilFunc, .nilFunc, .nilFunc, (.func (.func f3) #[] c3)] : Array Value).toList)) := Lib.hid (HT.out.set 40 (by omega) hS)
  replace hS := Lib.hid hS.one
  have ccode0 := code0.out
  have ccode1 := code1.out
  have ccode2 := code2.out
  have ccode3 := code3.out
  have ccode4 := code4.out
  go_wp2_with (refine wpList_store_mid rfl 63 _ _ rfl b 200 #[.nilFunc, .nilFunc, .nilFunc, .nilFunc, (.func (.func f3) #[] c3)] rfl rfl (HT.out.there 40 (by omega)) (by kernel_rfl) hS.out ?_; generalize w6.setCells b 200 (#[.nilFunc, .nilFunc, .nilFunc, .nilFunc, (.func (.func f3) #[] c3)] : Array Value).toList = w7 at hX ⊢; refine Hid.out ?_)
  clear hS ccode0 ccode1 ccode2 ccode3 ccode4
  replace T3 := Lib.hid (T3.out.abv (hX.out.2.abv hb))
  replace T5 := Lib.hid (T5.out.abv (hX.out.2.abv hb))
  replace code0 := Lib.hid ((World.cell?_of_block (hX.out.2.block _ (cell_lt code0.out) (Nat.ne_of_gt hcode))).trans code0.out)
  replace code1 := Lib.hid ((World.cell?_of_block (hX.out.2.block _ (cell_lt code1.out) (Nat.ne_of_gt hcode))).trans code1.out)
  replace code2 := Lib.hid ((World.cell?_of_block (hX.out.2.block _ (cell_lt code2.out) (Nat.ne_of_gt hcode))).trans code2.out)
  replace code3 := Lib.hid ((World.cell?_of_block (hX.out.2.block _ (cell_lt code3.out) (Nat.ne_of_gt hcode))).trans code3.out)
  replace code4 := Lib.hid ((World.cell?_of_block (hX.out.2.block _ (cell_lt code4.out) (Nat.ne_of_gt hcode))).trans code4.out)
  replace jump0 := Lib.hid ((World.cell?_of_block (hX.out.2.block _ (cell_lt jump0.out) (Nat.ne_of_gt hjump))).trans jump0.out)
  replace jump1 := Lib.hid ((World.cell?_of_block (hX.out.2.block _ (cell_lt jump1.out) (Nat.ne_of_gt hjump))).trans jump1.out)
  replace jump2 := Lib.hid ((World.cell?_of_block (hX.out.2.block _ (cell_lt jump2.out) (Nat.ne_of_gt hjump))).trans jump2.out)
  replace jump3 := Lib.hid ((World.cell?_of_block (hX.out.2.block _ (cell_lt jump3.out) (Nat.ne_of_gt hjump))).trans jump3.out)
  replace jump4 := Lib.hid ((World.cell?_of_block (hX.out.2.block _ (cell_lt jump4.out) (Nat.ne_of_gt hjump))).trans jump4.out)
  replace HT := Lib.hid hX.out.1
  replace HK := Lib.hid (HK.out.trans hX.out.2)
  replace hn := HT.out.le
  clear hX
  refine Lib.hid ?_
  have hS : ShpV nb w7 (#[.nilFunc, .nilFunc, .nilFunc, .nilFunc, (.func (.func f3) #[] c3)] : Array Value).toList { kd := some (tEach (tEither (tStat) (tIs [42]))) } := ⟨_, _, _, _, _, rfl, rfl, rfl, rfl, rfl, T3.out⟩
  have hX : Hid (Tab nb b (upd (upd F 40 { kd := some (tEach (tEither (tStat) (tIs [42]))) }) 41 { kd := some (tEach (tEither (tStat) (tIs [42]))) }) (w7.setCells b 205 (#[.nilFunc, .nilFunc, .nilFunc, .nilFunc, (.func (.func f3) #[] c3)] : Array Value).toList) ∧ Kx b w7 (w7.setCells b 205 (#[.nilFunc, .nilFunc, .nilFunc, .nilFunc, (.func (.func f3) #[] c3)] : Array Value).toList)) := Lib.hid (HT.out.set 41 (by omega) hS)
  replace hS := Lib.hid hS.one
  have ccode0 := code0.out
  have ccode1 := code1.out
  have ccode2 := code2.out
  have ccode3 := code3.out
  have ccode4 := code4.out
  go_wp2_with (refine wpList_store_mid rfl 63 _ _ rfl b 205 #[.nilFunc, .nilFunc, .nilFunc, .nilFunc, (.func (.func f3) #[] c3)] rfl rfl (HT.out.there 41 (by omega)) (by kernel_rfl) hS.out ?_; generalize w7.setCells b 205 (#[.nilFunc, .nilFunc, .nilFunc, .nilFunc, (.func (.func f3) #[] c3)] : Array Value).toList = w8 at hX ⊢; refine Hid.out ?_)
  clear hS ccode0 ccode1 ccode2 ccode3 ccode4
  replace T3 := Lib.hid (T3.out.abv (hX.out.2.abv hb))
  replace T5 := Lib.hid (T5.out.abv (hX.out.2.abv hb))
  replace code0 := Lib.hid ((World.cell?_of_block (hX.out.2.block _ (cell_lt code0.out) (Nat.ne_of_gt hcode))).trans code0.out)
  replace code1 := Lib.hid ((World.cell?_of_block (hX.out.2.block _ (cell_lt code1.out) (Nat.ne_of_gt hcode))).trans code1.out)
  replace code2 := Lib.hid ((World.cell?_of_block (hX.out.2.block _ (cell_lt code2.out) (Nat.ne_of_gt hcode))).trans code2.out)
  replace code3 := Lib.hid ((World.cell?_of_block (hX.out.2.block _ (cell_lt code3.out) (Nat.ne_of_gt hcode))).trans code3.out)
  replace code4 := Lib.hid ((World.cell?_of_block (hX.out.2.block _ (cell_lt code4.out) (Nat.ne_of_gt hcode))).trans code4.out)
  replace jump0 := Lib.hid ((World.cell?_of_block (hX.out.2.block _ (cell_lt jump0.out) (Nat.ne_of_gt hjump))).trans jump0.out)
  replace jump1 := Lib.hid ((World.cell?_of_block (hX.out.2.block _ (cell_lt jump1.out) (Nat.ne_of_gt hjump))).trans jump1.out)
  replace jump2 := Lib.hid ((World.cell?_of_block (hX.out.2.block _ (cell_lt jump2.out) (Nat.ne_of_gt hjump))).trans jump2.out)
  replace jump3 := Lib.hid ((World.cell?_of_block (hX.out.2.block _ (cell_lt jump3.out) (Nat.ne_of_gt hjump))).trans jump3.out)
  replace jump4 := Lib.hid ((World.cell?_of_block (hX.out.2.block _ (cell_lt jump4.out) (Nat.ne_of_gt hjump))).trans jump4.out)
  replace HT := Lib.hid hX.out.1
  replace HK := Lib.hid (HK.out.trans hX.out.2)
  replace hn := HT.out.le
  clear hX
  refine Lib.hid ?_
  go_wp2_with fail
  refine (ais_any (nb := nb) [2] _ _ _ (Nat.le_trans hn (b1 _).size) hn (by simp) (new_cells [2] (fun k => .int .i64 k) w8 _)).mono ?_
  rintro e w9 ⟨v9, rfl, T9, b2⟩
  have hB : Below w8.heap.size w8 w9 := (b1 _).trans (b2.mono (b1 _).size)
  replace HT := Lib.hid (HT.out.on hB)
  replace HK := Lib.hid (HK.out.trans (Kx.of hB))
  replace hn := HT.out.le
  replace T3 := Lib.hid (T3.out.on hB)
  replace T5 := Lib.hid (T5.out.on hB)
  replace code0 := Lib.hid (cell_kept code0.out hB)
  replace code1 := Lib.hid (cell_kept code1.out hB)
  replace code2 := Lib.hid (cell_kept code2.out hB)
  replace code3 := Lib.hid (cell_kept code3.out hB)
  replace code4 := Lib.hid (cell_kept code4.out hB)
  replace jump0 := Lib.hid (cell_kept jump0.out hB)
  replace jump1 := Lib.hid (cell_kept jump1.out hB)
  replace jump2 := Lib.hid (cell_kept jump2.out hB)
  replace jump3 := Lib.hid (cell_kept jump3.out hB)
  replace jump4 := Lib.hid (cell_kept jump4.out hB)
  obtain ⟨f9, c9, rfl⟩ := T9.func
  replace T9 := Lib.hid T9
  clear b2 hB
  go_wp2_with fail
  refine (ais_any (nb := nb) [41] _ _ _ (Nat.le_trans hn (b1 _).size) hn (by simp) (new_cells [41] (fun k => .int .i64 k) w9 _)).mono ?_
  rintro e w10 ⟨v10, rfl, T10, b2⟩
  have hB : Below w9.heap.size w9 w10 := (b1 _).trans (b2.mono (b1 _).size)
  replace HT := Lib.hid (HT.out.on hB)
  replace HK := Lib.hid (HK.out.trans (Kx.of hB))
  replace hn := HT.out.le
  replace T3 := Lib.hid (T3.out.on hB)
  replace T5 := Lib.hid (T5.out.on hB)
  replace T9 := Lib.hid (T9.out.on hB)
  replace code0 := Lib.hid (cell_kept code0.out hB)
  replace code1 := Lib.hid (cell_kept code1.out hB)
  replace code2 := Lib.hid (cell_kept code2.out hB)
  replace code3 := Lib.hid (cell_kept code3.out hB)
  replace code4 := Lib.hid (cell_kept code4.out hB)
  replace jump0 := Lib.hid (cell_kept jump0.out hB)
  replace jump1 := Lib.hid (cell_kept jump1.out hB)
  replace jump2 := Lib.hid (cell_kept jump2.out hB)
  replace jump3 := Lib.hid (cell_kept jump3.out hB)
  replace jump4 := Lib.hid (cell_kept jump4.out hB)
  obtain ⟨f10, c10, rfl⟩ := T10.func
  replace T10 := Lib.hid T10
  clear b2 hB
  go_wp2_with fail
  refine (alast_any hn T9.out T10.out).mono ?_
  rintro e w11 ⟨v11, rfl, T11, b2⟩
  have hB : Below w10.heap.size w10 w11 := b2
  replace HT := Lib.hid (HT.out.on hB)
  replace HK := Lib.hid (HK.out.trans (Kx.of hB))
  replace hn := HT.out.le
  replace T3 := Lib.hid (T3.out.on hB)
  replace T5 := Lib.hid (T5.out.on hB)
  replace T9 := Lib.hid (T9.out.on hB)
  replace T10 := Lib.hid (T10.out.on hB)
  replace code0 := Lib.hid (cell_kept code0.out hB)
  replace code1 := Lib.hid (cell_kept code1.out hB)
  replace code2 := Lib.hid (cell_kept code2.out hB)
  replace code3 := Lib.hid (cell_kept code3.out hB)
  replace code4 := Lib.hid (cell_kept code4.out hB)
  replace jump0 := Lib.hid (cell_kept jump0.out hB)
  replace jump1 := Lib.hid (cell_kept jump1.out hB)
  replace jump2 := Lib.hid (cell_kept jump2.out hB)
  replace jump3 := Lib.hid (cell_kept jump3.out hB)
  replace jump4 := Lib.hid (cell_kept jump4.out hB)
  obtain ⟨f11, c11, rfl⟩ := T11.func
  replace T11 := Lib.hid T11
  clear b2 hB
  have hS : ShpV nb w11 (#[.nilFunc, (.func (.func 87) #[] #[]), .nilFunc, .nilFunc, (.func (.func f11) #[] c11)] : Array Value).toList { st := some (tName nmd rsv), kd := some (tLast (tIs [2]) (tIs [41])) } := ⟨_, _, _, _, _, rfl, rfl, (tst_name HL.out _), rfl, rfl, T11.out⟩
  have hX : Hid (Tab nb b (upd (upd (upd F 40 { kd := some (tEach (tEither (tStat) (tIs [42]))) }) 41 { kd := some (tEach (tEither (tStat) (tIs [42]))) }) 42 { st := some (tName nmd rsv), kd := some (tLast (tIs [2]) (tIs [41])) }) (w11.setCells b 210 (#[.nilFunc, (.func (.func 87) #[] #[]), .nilFunc, .nilFunc, (.func (.func f11) #[] c11)] : Array Value).toList) ∧ Kx b w11 (w11.setCells b 210 (#[.nilFunc, (.func (.func 87) #[] #[]), .nilFunc, .nilFunc, (.func (.func f11) #[] c11)] : Array Value).toList)) := Lib.hid (HT.out.set 42 (by omega) hS)
  replace hS := Lib.hid hS.one
  go_wp2_with (refine wpList_store_mid rfl 63 _ _ rfl b 210 #[.nilFunc, (.func (.func 87) #[] #[]), .nilFunc, .nilFunc, (.func (.func f11) #[] c11)] rfl rfl (HT.out.there 42 (by omega)) (by kernel_rfl) hS.out ?_; generalize w11.setCells b 210 (#[.nilFunc, (.func (.func 87) #[] #[]), .nilFunc, .nilFunc, (.func (.func f11) #[] c11)] : Array Value).toList = w12 at hX ⊢; refine Hid.out ?_)
  clear hS
  clear T9 T10 T11
  replace T3 := Lib.hid (T3.out.abv (hX.out.2.abv hb))
  replace T5 := Lib.hid (T5.out.abv (hX.out.2.abv hb))
  replace code0 := Lib.hid ((World.cell?_of_block (hX.out.2.block _ (cell_lt code0.out) (Nat.ne_of_gt hcode))).trans code0.out)
  replace code1 := Lib.hid ((World.cell?_of_block (hX.out.2.block _ (cell_lt code1.out) (Nat.ne_of_gt hcode))).trans code1.out)
  replace code2 := Lib.hid ((World.cell?_of_block (hX.out.2.block _ (cell_lt code2.out) (Nat.ne_of_gt hcode))).trans code2.out)
  replace code3 := Lib.hid ((World.cell?_of_block (hX.out.2.block _ (cell_lt code3.out) (Nat.ne_of_gt hcode))).trans code3.out)
  replace code4 := Lib.hid ((World.cell?_of_block (hX.out.2.block _ (cell_lt code4.out) (Nat.ne_of_gt hcode))).trans code4.out)
  replace jump0 := Lib.hid ((World.cell?_of_block (hX.out.2.block _ (cell_lt jump0.out) (Nat.ne_of_gt hjump))).trans jump0.out)
  replace jump1 := Lib.hid ((World.cell?_of_block (hX.out.2.block _ (cell_lt jump1.out) (Nat.ne_of_gt hjump))).trans jump1.out)
  replace jump2 := Lib.hid ((World.cell?_of_block (hX.out.2.block _ (cell_lt jump2.out) (Nat.ne_of_gt hjump))).trans jump2.out)
  replace jump3 := Lib.hid ((World.cell?_of_block (hX.out.2.block _ (cell_lt jump3.out) (Nat.ne_of_gt hjump))).trans jump3.out)
  replace jump4 := Lib.hid ((World.cell?_of_block (hX.out.2.block _ (cell_lt jump4.out) (Nat.ne_of_gt hjump))).trans jump4.out)
  replace HT := Lib.hid hX.out.1
  replace HK := Lib.hid (HK.out.trans hX.out.2)
  replace hn := HT.out.le
  clear hX
  refine Lib.hid ?_
  go_wp2_with fail
  refine (ais_any (nb := nb) [45] _ _ _ (Nat.le_trans hn (b1 _).size) hn (by simp) (new_cells [45] (fun k => .int .i64 k) w12 _)).mono ?_
  rintro e w13 ⟨v13, rfl, T13, b2⟩
  have hB : Below w12.heap.size w12 w13 := (b1 _).trans (b2.mono (b1 _).size)
  replace HT := Lib.hid (HT.out.on hB)
  replace HK := Lib.hid (HK.out.trans (Kx.of hB))
  replace hn := HT.out.le
  replace T3 := Lib.hid (T3.out.on hB)
  replace T5 := Lib.hid (T5.out.on hB)
  replace code0 := Lib.hid (cell_kept code0.out hB)
  replace code1 := Lib.hid (cell_kept code1.out hB)
  replace code2 := Lib.hid (cell_kept code2.out hB)
  replace code3 := Lib.hid (cell_kept code3.out hB)
  replace code4 := Lib.hid (cell_kept code4.out hB)
  replace jump0 := Lib.hid (cell_kept jump0.out hB)
  replace jump1 := Lib.hid (cell_kept jump1.out hB)
  replace jump2 := Lib.hid (cell_kept jump2.out hB)
  replace jump3 := Lib.hid (cell_kept jump3.out hB)
  replace jump4 := Lib.hid (cell_kept jump4.out hB)
  obtain ⟨f13, c13, rfl⟩ := T13.func
  replace T13 := Lib.hid T13
  clear b2 hB
  go_wp2_with fail
  refine (ais_any (nb := nb) [45] _ _ _ (Nat.le_trans hn (b1 _).size) hn (by simp) (new_cells [45] (fun k => .int .i64 k) w13 _)).mono ?_
  rintro e w14 ⟨v14, rfl, T14, b2⟩
  have hB : Below w13.heap.size w13 w14 := (b1 _).trans (b2.mono (b1 _).size)
  replace HT := Lib.hid (HT.out.on hB)
  replace HK := Lib.hid (HK.out.trans (Kx.of hB))
  replace hn := HT.out.le
  replace T3 := Lib.hid (T3.out.on hB)
  replace T5 := Lib.hid (T5.out.on hB)
  replace T13 := Lib.hid (T13.out.on hB)
  replace code0 := Lib.hid (cell_kept code0.out hB)
  replace code1 := Lib.hid (cell_kept code1.out hB)
  replace code2 := Lib.hid (cell_kept code2.out hB)
  replace code3 := Lib.hid (cell_kept code3.out hB)
  replace code4 := Lib.hid (cell_kept code4.out hB)
  replace jump0 := Lib.hid (cell_kept jump0.out hB)
  replace jump1 := Lib.hid (cell_kept jump1.out hB)
  replace jump2 := Lib.hid (cell_kept jump2.out hB)
  replace jump3 := Lib.hid (cell_kept jump3.out hB)
  replace jump4 := Lib.hid (cell_kept jump4.out hB)
  obtain ⟨f14, c14, rfl⟩ := T14.func
  replace T14 := Lib.hid T14
  clear b2 hB
  go_wp2_with fail
  refine (afirst_any hn T13.out T14.out).mono ?_
  rintro e w15 ⟨v15, rfl, T15, b2⟩
  have hB : Below w14.heap.size w14 w15 := b2
  replace HT := Lib.hid (HT.out.on hB)
  replace HK := Lib.hid (HK.out.trans (Kx.of hB))
  replace hn := HT.out.le
  replace T3 := Lib.hid (T3.out.on hB)
  replace T5 := Lib.hid (T5.out.on hB)
  replace T13 := Lib.hid (T13.out.on hB)
  replace T14 := Lib.hid (T14.out.on hB)
  replace code0 := Lib.hid (cell_kept code0.out hB)
  replace code1 := Lib.hid (cell_kept code1.out hB)
  replace code2 := Lib.hid (cell_kept code2.out hB)
  replace code3 := Lib.hid (cell_kept code3.out hB)
  replace code4 := Lib.hid (cell_kept code4.out hB)
  replace jump0 := Lib.hid (cell_kept jump0.out hB)
  replace jump1 := Lib.hid (cell_kept jump1.out hB)
  replace jump2 := Lib.hid (cell_kept jump2.out hB)
  replace jump3 := Lib.hid (cell_kept jump3.out hB)
  replace jump4 := Lib.hid (cell_kept jump4.out hB)
  obtain ⟨f15, c15, rfl⟩ := T15.func
  replace T15 := Lib.hid T15
  clear b2 hB
  have hS : ShpV nb w15 (#[.nilFunc, .nilFunc, .nilFunc, .nilFunc, (.func (.func f15) #[] c15)] : Array Value).toList { kd := some (tFirst (tIs [45]) (tIs [45])) } := ⟨_, _, _, _, _, rfl, rfl, rfl, rfl, rfl, T15.out⟩
  have hX : Hid (Tab nb b (upd (upd (upd (upd F 40 { kd := some (tEach (tEither (tStat) (tIs [42]))) }) 41 { kd := some (tEach (tEither (tStat) (tIs [42]))) }) 42 { st := some (tName nmd rsv), kd := some (tLast (tIs [2]) (tIs [41])) }) 44 { kd := some (tFirst (tIs [45]) (tIs [45])) }) (w15.setCells b 220 (#[.nilFunc, .nilFunc, .nilFunc, .nilFunc, (.func (.func f15) #[] c15)] : Array Value).toList) ∧ Kx b w15 (w15.setCells b 220 (#[.nilFunc, .nilFunc, .nilFunc, .nilFunc, (.func (.func f15) #[] c15)] : Array Value).toList)) := Lib.hid (HT.out.set 44 (by omega) hS)
  replace hS := Lib.hid hS.one
  go_wp2_with (refine wpList_store_mid rfl 63 _ _ rfl b 220 #[.nilFunc, .nilFunc, .nilFunc, .nilFunc, (.func (.func f15) #[] c15)] rfl rfl (HT.out.there 44 (by omega)) (by kernel_rfl) hS.out ?_; generalize w15.setCells b 220 (#[.nilFunc, .nilFunc, .nilFunc, .nilFunc, (.func (.func f15) #[] c15)] : Array Value).toList = w16 at hX ⊢; refine Hid.out ?_)
  clear hS
  clear T13 T14 T15
  replace T3 := Lib.hid (T3.out.abv (hX.out.2.abv hb))
  replace T5 := Lib.hid (T5.out.abv (hX.out.2.abv hb))
  replace code0 := Lib.hid ((World.cell?_of_block (hX.out.2.block _ (cell_lt code0.out) (Nat.ne_of_gt hcode))).trans code0.out)
  replace code1 := Lib.hid ((World.cell?_of_block (hX.out.2.block _ (cell_lt code1.out) (Nat.ne_of_gt hcode))).trans code1.out)
  replace code2 := Lib.hid ((World.cell?_of_block (hX.out.2.block _ (cell_lt code2.out) (Nat.ne_of_gt hcode))).trans code2.out)
  replace code3 := Lib.hid ((World.cell?_of_block (hX.out.2.block _ (cell_lt code3.out) (Nat.ne_of_gt hcode))).trans code3.out)
  replace code4 := Lib.hid ((World.cell?_of_block (hX.out.2.block _ (cell_lt code4.out) (Nat.ne_of_gt hcode))).trans code4.out)
  replace jump0 := Lib.hid ((World.cell?_of_block (hX.out.2.block _ (cell_lt jump0.out) (Nat.ne_of_gt hjump))).trans jump0.out)
  replace jump1 := Lib.hid ((World.cell?_of_block (hX.out.2.block _ (cell_lt jump1.out) (Nat.ne_of_gt hjump))).trans jump1.out)
  replace jump2 := Lib.hid ((World.cell?_of_block (hX.out.2.block _ (cell_lt jump2.out) (Nat.ne_of_gt hjump))).trans jump2.out)
  replace jump3 := Lib.hid ((World.cell?_of_block (hX.out.2.block _ (cell_lt jump3.out) (Nat.ne_of_gt hjump))).trans jump3.out)
  replace jump4 := Lib.hid ((World.cell?_of_block (hX.out.2.block _ (cell_lt jump4.out) (Nat.ne_of_gt hjump))).trans jump4.out)
  replace HT := Lib.hid hX.out.1
  replace HK := Lib.hid (HK.out.trans hX.out.2)
  replace hn := HT.out.le
  clear hX
  refine Lib.hid ?_
  go_wp2_with fail
  refine (arow_any (nb := nb) [] none _ _ hn (no_tsts _)).mono ?_
  rintro e w17 ⟨v17, rfl, T17, b2⟩
  have hB : Below w16.heap.size w16 w17 := b2
  replace HT := Lib.hid (HT.out.on hB)
  replace HK := Lib.hid (HK.out.trans (Kx.of hB))
  replace hn := HT.out.le
  replace T3 := Lib.hid (T3.out.on hB)
  replace T5 := Lib.hid (T5.out.on hB)
  replace code0 := Lib.hid (cell_kept code0.out hB)
  replace code1 := Lib.hid (cell_kept code1.out hB)
  replace code2 := Lib.hid (cell_kept code2.out hB)
  replace code3 := Lib.hid (cell_kept code3.out hB)
  replace code4 := Lib.hid (cell_kept code4.out hB)
  replace jump0 := Lib.hid (cell_kept jump0.out hB)
  replace jump1 := Lib.hid (cell_kept jump1.out hB)
  replace jump2 := Lib.hid (cell_kept jump2.out hB)
  replace jump3 := Lib.hid (cell_kept jump3.out hB)
  replace jump4 := Lib.hid (cell_kept jump4.out hB)
  obtain ⟨f17, c17, rfl⟩ := T17.func
  replace T17 := Lib.hid T17
  clear b2 hB
  go_wp2_with fail
  refine (arow_any (nb := nb) [tExpr] _ _ _ (Nat.le_trans hn (b1 _).size) (new_tsts hn (vs := [(.func (.func 86) #[] #[])]) (ps := [tExpr]) _ ⟨(tst_expr _), trivial⟩ (by simp))).mono ?_
  rintro e w18 ⟨v18, rfl, T18, b2⟩
  have hB : Below w17.heap.size w17 w18 := (b1 _).trans (b2.mono (b1 _).size)
  replace HT := Lib.hid (HT.out.on hB)
  replace HK := Lib.hid (HK.out.trans (Kx.of hB))
  replace hn := HT.out.le
  replace T3 := Lib.hid (T3.out.on hB)
  replace T5 := Lib.hid (T5.out.on hB)
  replace T17 := Lib.hid (T17.out.on hB)
  replace code0 := Lib.hid (cell_kept code0.out hB)
  replace code1 := Lib.hid (cell_kept code1.out hB)
  replace code2 := Lib.hid (cell_kept code2.out hB)
  replace code3 := Lib.hid (cell_kept code3.out hB)
  replace code4 := Lib.hid (cell_kept code4.out hB)
  replace jump0 := Lib.hid (cell_kept jump0.out hB)
  replace jump1 := Lib.hid (cell_kept jump1.out hB)
  replace jump2 := Lib.hid (cell_kept jump2.out hB)
  replace jump3 := Lib.hid (cell_kept jump3.out hB)
  replace jump4 := Lib.hid (cell_kept jump4.out hB)
  obtain ⟨f18, c18, rfl⟩ := T18.func
  replace T18 := Lib.hid T18
  clear b2 hB
  go_wp2_with fail
  refine (aeither_any hn T17.out T18.out).mono ?_
  rintro e w19 ⟨v19, rfl, T19, b2⟩
  have hB : Below w18.heap.size w18 w19 := b2
  replace HT := Lib.hid (HT.out.on hB)
  replace HK := Lib.hid (HK.out.trans (Kx.of hB))
  replace hn := HT.out.le
  replace T3 := Lib.hid (T3.out.on hB)
  replace T5 := Lib.hid (T5.out.on hB)
  replace T17 := Lib.hid (T17.out.on hB)
  replace T18 := Lib.hid (T18.out.on hB)
  replace code0 := Lib.hid (cell_kept code0.out hB)
  replace code1 := Lib.hid (cell_kept code1.out hB)
  replace code2 := Lib.hid (cell_kept code2.out hB)
  replace code3 := Lib.hid (cell_kept code3.out hB)
  replace code4 := Lib.hid (cell_kept code4.out hB)
  replace jump0 := Lib.hid (cell_kept jump0.out hB)
  replace jump1 := Lib.hid (cell_kept jump1.out hB)
  replace jump2 := Lib.hid (cell_kept jump2.out hB)
  replace jump3 := Lib.hid (cell_kept jump3.out hB)
  replace jump4 := Lib.hid (cell_kept jump4.out hB)
  obtain ⟨f19, c19, rfl⟩ := T19.func
  replace T19 := Lib.hid T19
  clear b2 hB
  have hS : ShpV nb w19 (#[.nilFunc, (.func (.func 87) #[] #[]), .nilFunc, .nilFunc, (.func (.func f19) #[] c19)] : Array Value).toList { st := some (tName nmd rsv), kd := some (tEither (tRow []) (tRow [tExpr])) } := ⟨_, _, _, _, _, rfl, rfl, (tst_name HL.out _), rfl, rfl, T19.out⟩
  have hX : Hid (Tab nb b (upd (upd (upd (upd (upd F 40 { kd := some (tEach (tEither (tStat) (tIs [42]))) }) 41 { kd := some (tEach (tEither (tStat) (tIs [42]))) }) 42 { st := some (tName nmd rsv), kd := some (tLast (tIs [2]) (tIs [41])) }) 44 { kd := some (tFirst (tIs [45]) (tIs [45])) }) 45 { st := some (tName nmd rsv), kd := some (tEither (tRow []) (tRow [tExpr])) }) (w19.setCells b 225 (#[.nilFunc, (.func (.func 87) #[] #[]), .nilFunc, .nilFunc, (.func (.func f19) #[] c19)] : Array Value).toList) ∧ Kx b w19 (w19.setCells b 225 (#[.nilFunc, (.func (.func 87) #[] #[]), .nilFunc, .nilFunc, (.func (.func f19) #[] c19)] : Array Value).toList)) := Lib.hid (HT.out.set 45 (by omega) hS)
  replace hS := Lib.hid hS.one
  go_wp2_with (refine wpList_store_mid rfl 63 _ _ rfl b 225 #[.nilFunc, (.func (.func 87) #[] #[]), .nilFunc, .nilFunc, (.func (.func f19) #[] c19)] rfl rfl (HT.out.there 45 (by omega)) (by kernel_rfl) hS.out ?_; generalize w19.setCells b 225 (#[.nilFunc, (.func (.func 87) #[] #[]), .nilFunc, .nilFunc, (.func (.func f19) #[] c19)] : Array Value).toList = w20 at hX ⊢; refine Hid.out ?_)
  clear hS
  clear T17 T18 T19
  replace T3 := Lib.hid (T3.out.abv (hX.out.2.abv hb))
  replace T5 := Lib.hid (T5.out.abv (hX.out.2.abv hb))
  replace code0 := Lib.hid ((World.cell?_of_block (hX.out.2.block _ (cell_lt code0.out) (Nat.ne_of_gt hcode))).trans code0.out)
  replace code1 := Lib.hid ((World.cell?_of_block (hX.out.2.block _ (cell_lt code1.out) (Nat.ne_of_gt hcode))).trans code1.out)
  replace code2 := Lib.hid ((World.cell?_of_block (hX.out.2.block _ (cell_lt code2.out) (Nat.ne_of_gt hcode))).trans code2.out)
  replace code3 := Lib.hid ((World.cell?_of_block (hX.out.2.block _ (cell_lt code3.out) (Nat.ne_of_gt hcode))).trans code3.out)
  replace code4 := Lib.hid ((World.cell?_of_block (hX.out.2.block _ (cell_lt code4.out) (Nat.ne_of_gt hcode))).trans code4.out)
  replace jump0 := Lib.hid ((World.cell?_of_block (hX.out.2.block _ (cell_lt jump0.out) (Nat.ne_of_gt hjump))).trans jump0.out)
  replace jump1 := Lib.hid ((World.cell?_of_block (hX.out.2.block _ (cell_lt jump1.out) (Nat.ne_of_gt hjump))).trans jump1.out)
  replace jump2 := Lib.hid ((World.cell?_of_block (hX.out.2.block _ (cell_lt jump2.out) (Nat.ne_of_gt hjump))).trans jump2.out)
  replace jump3 := Lib.hid ((World.cell?_of_block (hX.out.2.block _ (cell_lt jump3.out) (Nat.ne_of_gt hjump))).trans jump3.out)
  replace jump4 := Lib.hid ((World.cell?_of_block (hX.out.2.block _ (cell_lt jump4.out) (Nat.ne_of_gt hjump))).trans jump4.out)
  replace HT := Lib.hid hX.out.1
  replace HK := Lib.hid (HK.out.trans hX.out.2)
  replace hn := HT.out.le
  clear hX
  refine Lib.hid ?_
  go_wp2_with fail
  refine (arow_any (nb := nb) [tExpr] _ _ _ (Nat.le_trans hn (b1 _).size) (new_tsts hn (vs := [(.func (.func 86) #[] #[])]) (ps := [tExpr]) _ ⟨(tst_expr _), trivial⟩ (by simp))).mono ?_
  rintro e w21 ⟨v21, rfl, T21, b2⟩
  have hB : Below w20.heap.size w20 w21 := (b1 _).trans (b2.mono (b1 _).size)
  replace HT := Lib.hid (HT.out.on hB)
  replace HK := Lib.hid (HK.out.trans (Kx.of hB))
  replace hn := HT.out.le
  replace T3 := Lib.hid (T3.out.on hB)
  replace T5 := Lib.hid (T5.out.on hB)
  replace code0 := Lib.hid (cell_kept code0.out hB)
  replace code1 := Lib.hid (cell_kept code1.out hB)
  replace code2 := Lib.hid (cell_kept code2.out hB)
  replace code3 := Lib.hid (cell_kept code3.out hB)
  replace code4 := Lib.hid (cell_kept code4.out hB)
  replace jump0 := Lib.hid (cell_kept jump0.out hB)
  replace jump1 := Lib.hid (cell_kept jump1.out hB)
  replace jump2 := Lib.hid (cell_kept jump2.out hB)
  replace jump3 := Lib.hid (cell_kept jump3.out hB)
  replace jump4 := Lib.hid (cell_kept jump4.out hB)
  obtain ⟨f21, c21, rfl⟩ := T21.func
  replace T21 := Lib.hid T21
  clear b2 hB
  have hS : ShpV nb w21 (#[.nilFunc, .nilFunc, .nilFunc, .nilFunc, (.func (.func f21) #[] c21)] : Array Value).toList { kd := some (tRow [tExpr]) } := ⟨_, _, _, _, _, rfl, rfl, rfl, rfl, rfl, T21.out⟩
  have hX : Hid (Tab nb b (upd (upd (upd (upd (upd (upd F 40 { kd := some (tEach (tEither (tStat) (tIs [42]))) }) 41 { kd := some (tEach (tEither (tStat) (tIs [42]))) }) 42 { st := some (tName nmd rsv), kd := some (tLast (tIs [2]) (tIs [41])) }) 44 { kd := some (tFirst (tIs [45]) (tIs [45])) }) 45 { st := some (tName nmd rsv), kd := some (tEither (tRow []) (tRow [tExpr])) }) 47 { kd := some (tRow [tExpr]) }) (w21.setCells b 235 (#[.nilFunc, .nilFunc, .nilFunc, .nilFunc, (.func (.func f21) #[] c21)] : Array Value).toList) ∧ Kx b w21 (w21.setCells b 235 (#[.nilFunc, .nilFunc, .nilFunc, .nilFunc, (.func (.func f21) #[] c21)] : Array Value).toList)) := Lib.hid (HT.out.set 47 (by omega) hS)
  replace hS := Lib.hid hS.one
  go_wp2_with (refine wpList_store_mid rfl 63 _ _ rfl b 235 #[.nilFunc, .nilFunc, .nilFunc, .nilFunc, (.func (.func f21) #[] c21)] rfl rfl (HT.out.there 47 (by omega)) (by kernel_rfl) hS.out ?_; generalize w21.setCells b 235 (#[.nilFunc, .nilFunc, .nilFunc, .nilFunc, (.func (.func f21) #[] c21)] : Array Value).toList = w22 at hX ⊢; refine Hid.out ?_)
  clear hS
  clear T21
  replace T3 := Lib.hid (T3.out.abv (hX.out.2.abv hb))
  replace T5 := Lib.hid (T5.out.abv (hX.out.2.abv hb))
  replace code0 := Lib.hid ((World.cell?_of_block (hX.out.2.block _ (cell_lt code0.out) (Nat.ne_of_gt hcode))).trans code0.out)
  replace code1 := Lib.hid ((World.cell?_of_block (hX.out.2.block _ (cell_lt code1.out) (Nat.ne_of_gt hcode))).trans code1.out)
  replace code2 := Lib.hid ((World.cell?_of_block (hX.out.2.block _ (cell_lt code2.out) (Nat.ne_of_gt hcode))).trans code2.out)
  replace code3 := Lib.hid ((World.cell?_of_block (hX.out.2.block _ (cell_lt code3.out) (Nat.ne_of_gt hcode))).trans code3.out)
  replace code4 := Lib.hid ((World.cell?_of_block (hX.out.2.block _ (cell_lt code4.out) (Nat.ne_of_gt hcode))).trans code4.out)
  replace jump0 := Lib.hid ((World.cell?_of_block (hX.out.2.block _ (cell_lt jump0.out) (Nat.ne_of_gt hjump))).trans jump0.out)
  replace jump1 := Lib.hid ((World.cell?_of_block (hX.out.2.block _ (cell_lt jump1.out) (Nat.ne_of_gt hjump))).trans jump1.out)
  replace jump2 := Lib.hid ((World.cell?_of_block (hX.out.2.block _ (cell_lt jump2.out) (Nat.ne_of_gt hjump))).trans jump2.out)
  replace jump3 := Lib.hid ((World.cell?_of_block (hX.out.2.block _ (cell_lt jump3.out) (Nat.ne_of_gt hjump))).trans jump3.out)
  replace jump4 := Lib.hid ((World.cell?_of_block (hX.out.2.block _ (cell_lt jump4.out) (Nat.ne_of_gt hjump))).trans jump4.out)
  replace HT := Lib.hid hX.out.1
  replace HK := Lib.hid (HK.out.trans hX.out.2)
  replace hn := HT.out.le
  clear hX
  refine Lib.hid ?_
  have hS : ShpV nb w22 (#[.nilFunc, (.func (.func f5) #[] c5), .nilFunc, .nilFunc, .nilFunc] : Array Value).toList { st := some (tEither (tUnnamed) (tName nmd rsv)) } := ⟨_, _, _, _, _, rfl, rfl, T5.out, rfl, rfl, rfl⟩
  have hX : Hid (Tab nb b (upd (upd (upd (upd (upd (upd (upd F 40 { kd := some (tEach (tEither (tStat) (tIs [42]))) }) 41 { kd := some (tEach (tEither (tStat) (tIs [42]))) }) 42 { st := some (tName nmd rsv), kd := some (tLast (tIs [2]) (tIs [41])) }) 44 { kd := some (tFirst (tIs [45]) (tIs [45])) }) 45 { st := some (tName nmd rsv), kd := some (tEither (tRow []) (tRow [tExpr])) }) 47 { kd := some (tRow [tExpr]) }) 53 { st := some (tEither (tUnnamed) (tName nmd rsv)) }) (w22.setCells b 265 (#[.nilFunc, (.func (.func f5) #[] c5), .nilFunc, .nilFunc, .nilFunc] : Array Value).toList) ∧ Kx b w22 (w22.setCells b 265 (#[.nilFunc, (.func (.func f5) #[] c5), .nilFunc, .nilFunc, .nilFunc] : Array Value).toList)) := Lib.hid (HT.out.set 53 (by omega) hS)
  replace hS := Lib.hid hS.one
  have cjump0 := jump0.out
  have cjump1 := jump1.out
  have cjump2 := jump2.out
  have cjump3 := jump3.out
  have cjump4 := jump4.out
  go_wp2_with (refine wpList_store_mid rfl 63 _ _ rfl b 265 #[.nilFunc, (.func (.func f5) #[] c5), .nilFunc, .nilFunc, .nilFunc] rfl rfl (HT.out.there 53 (by omega)) (by kernel_rfl) hS.out ?_; generalize w22.setCells b 265 (#[.nilFunc, (.func (.func f5) #[] c5), .nilFunc, .nilFunc, .nilFunc] : Array Value).toList = w23 at hX ⊢; refine Hid.out ?_)
  clear hS cjump0 cjump1 cjump2 cjump3 cjump4
  replace T3 := Lib.hid (T3.out.abv (hX.out.2.abv hb))
  replace T5 := Lib.hid (T5.out.abv (hX.out.2.abv hb))
  replace code0 := Lib.hid ((World.cell?_of_block (hX.out.2.block _ (cell_lt code0.out) (Nat.ne_of_gt hcode))).trans code0.out)
  replace code1 := Lib.hid ((World.cell?_of_block (hX.out.2.block _ (cell_lt code1.out) (Nat.ne_of_gt hcode))).trans code1.out)
  replace code2 := Lib.hid ((World.cell?_of_block (hX.out.2.block _ (cell_lt code2.out) (Nat.ne_of_gt hcode))).trans code2.out)
  replace code3 := Lib.hid ((World.cell?_of_block (hX.out.2.block _ (cell_lt code3.out) (Nat.ne_of_gt hcode))).trans code3.out)
  replace code4 := Lib.hid ((World.cell?_of_block (hX.out.2.block _ (cell_lt code4.out) (Nat.ne_of_gt hcode))).trans code4.out)
  replace jump0 := Lib.hid ((World.cell?_of_block (hX.out.2.block _ (cell_lt jump0.out) (Nat.ne_of_gt hjump))).trans jump0.out)
  replace jump1 := Lib.hid ((World.cell?_of_block (hX.out.2.block _ (cell_lt jump1.out) (Nat.ne_of_gt hjump))).trans jump1.out)
  replace jump2 := Lib.hid ((World.cell?_of_block (hX.out.2.block _ (cell_lt jump2.out) (Nat.ne_of_gt hjump))).trans jump2.out)
  replace jump3 := Lib.hid ((World.cell?_of_block (hX.out.2.block _ (cell_lt jump3.out) (Nat.ne_of_gt hjump))).trans jump3.out)
  replace jump4 := Lib.hid ((World.cell?_of_block (hX.out.2.block _ (cell_lt jump4.out) (Nat.ne_of_gt hjump))).trans jump4.out)
  replace HT := Lib.hid hX.out.1
  replace HK := Lib.hid (HK.out.trans hX.out.2)
  replace hn := HT.out.le
  clear hX
  refine Lib.hid ?_
  have hS : ShpV nb w23 (#[.nilFunc, (.func (.func f5) #[] c5), .nilFunc, .nilFunc, .nilFunc] : Array Value).toList { st := some (tEither (tUnnamed) (tName nmd rsv)) } := ⟨_, _, _, _, _, rfl, rfl, T5.out, rfl, rfl, rfl⟩
  have hX : Hid (Tab nb b (upd (upd (upd (upd (upd (upd (upd (upd F 40 { kd := some (tEach (tEither (tStat) (tIs [42]))) }) 41 { kd := some (tEach (tEither (tStat) (tIs [42]))) }) 42 { st := some (tName nmd rsv), kd := some (tLast (tIs [2]) (tIs [41])) }) 44 { kd := some (tFirst (tIs [45]) (tIs [45])) }) 45 { st := some (tName nmd rsv), kd := some (tEither (tRow []) (tRow [tExpr])) }) 47 { kd := some (tRow [tExpr]) }) 53 { st := some (tEither (tUnnamed) (tName nmd rsv)) }) 54 { st := some (tEither (tUnnamed) (tName nmd rsv)) }) (w23.setCells b 270 (#[.nilFunc, (.func (.func f5) #[] c5), .nilFunc, .nilFunc, .nilFunc] : Array Value).toList) ∧ Kx b w23 (w23.setCells b 270 (#[.nilFunc, (.func (.func f5) #[] c5), .nilFunc, .nilFunc, .nilFunc] : Array Value).toList)) := Lib.hid (HT.out.set 54 (by omega) hS)
  replace hS := Lib.hid hS.one
  have cjump0 := jump0.out
  have cjump1 := jump1.out
  have cjump2 := jump2.out
  have cjump3 := jump3.out
  have cjump4 := jump4.out
  go_wp2_with (refine wpList_store_mid rfl 63 _ _ rfl b 270 #[.nilFunc, (.func (.func f5) #[] c5), .nilFunc, .nilFunc, .nilFunc] rfl rfl (HT.out.there 54 (by omega)) (by kernel_rfl) hS.out ?_; generalize w23.setCells b 270 (#[.nilFunc, (.func (.func f5) #[] c5), .nilFunc, .nilFunc, .nilFunc] : Array Value).toList = w24 at hX ⊢; refine Hid.out ?_)
  clear hS cjump0 cjump1 cjump2 cjump3 cjump4
  replace T3 := Lib.hid (T3.out.abv (hX.out.2.abv hb))
  replace T5 := Lib.hid (T5.out.abv (hX.out.2.abv hb))
  replace code0 := Lib.hid ((World.cell?_of_block (hX.out.2.block _ (cell_lt code0.out) (Nat.ne_of_gt hcode))).trans code0.out)
  replace code1 := Lib.hid ((World.cell?_of_block (hX.out.2.block _ (cell_lt code1.out) (Nat.ne_of_gt hcode))).trans code1.out)
  replace code2 := Lib.hid ((World.cell?_of_block (hX.out.2.block _ (cell_lt code2.out) (Nat.ne_of_gt hcode))).trans code2.out)
  replace code3 := Lib.hid ((World.cell?_of_block (hX.out.2.block _ (cell_lt code3.out) (Nat.ne_of_gt hcode))).trans code3.out)
  replace code4 := Lib.hid ((World.cell?_of_block (hX.out.2.block _ (cell_lt code4.out) (Nat.ne_of_gt hcode))).trans code4.out)
  replace jump0 := Lib.hid ((World.cell?_of_block (hX.out.2.block _ (cell_lt jump0.out) (Nat.ne_of_gt hjump))).trans jump0.out)
  replace jump1 := Lib.hid ((World.cell?_of_block (hX.out.2.block _ (cell_lt jump1.out) (Nat.ne_of_gt hjump))).trans jump1.out)
  replace jump2 := Lib.hid ((World.cell?_of_block (hX.out.2.block _ (cell_lt jump2.out) (Nat.ne_of_gt hjump))).trans jump2.out)
  replace jump3 := Lib.hid ((World.cell?_of_block (hX.out.2.block _ (cell_lt jump3.out) (Nat.ne_of_gt hjump))).trans jump3.out)
  replace jump4 := Lib.hid ((World.cell?_of_block (hX.out.2.block _ (cell_lt jump4.out) (Nat.ne_of_gt hjump))).trans jump4.out)
  replace HT := Lib.hid hX.out.1
  replace HK := Lib.hid (HK.out.trans hX.out.2)
  replace hn := HT.out.le
  clear hX
  refine Lib.hid ?_
  go_wp2_with fail
  refine (arow_any (nb := nb) [] none _ _ hn (no_tsts _)).mono ?_
  rintro e w25 ⟨v25, rfl, T25, b2⟩
  have hB : Below w24.heap.size w24 w25 := b2
  replace HT := Lib.hid (HT.out.on hB)
  replace HK := Lib.hid (HK.out.trans (Kx.of hB))
  replace hn := HT.out.le
  replace T3 := Lib.hid (T3.out.on hB)
  replace T5 := Lib.hid (T5.out.on hB)
  replace code0 := Lib.hid (cell_kept code0.out hB)
  replace code1 := Lib.hid (cell_kept code1.out hB)
  replace code2 := Lib.hid (cell_kept code2.out hB)
  replace code3 := Lib.hid (cell_kept code3.out hB)
  replace code4 := Lib.hid (cell_kept code4.out hB)
  replace jump0 := Lib.hid (cell_kept jump0.out hB)
  replace jump1 := Lib.hid (cell_kept jump1.out hB)
  replace jump2 := Lib.hid (cell_kept jump2.out hB)
  replace jump3 := Lib.hid (cell_kept jump3.out hB)
  replace jump4 := Lib.hid (cell_kept jump4.out hB)
  obtain ⟨f25, c25, rfl⟩ := T25.func
  replace T25 := Lib.hid T25
  clear b2 hB
  go_wp2_with fail
  refine (arow_any (nb := nb) [tExpr] _ _ _ (Nat.le_trans hn (b1 _).size) (new_tsts hn (vs := [(.func (.func 86) #[] #[])]) (ps := [tExpr]) _ ⟨(tst_expr _), trivial⟩ (by simp))).mono ?_
  rintro e w26 ⟨v26, rfl, T26, b2⟩
  have hB : Below w25.heap.size w25 w26 := (b1 _).trans (b2.mono (b1 _).size)
  replace HT := Lib.hid (HT.out.on hB)
  replace HK := Lib.hid (HK.out.trans (Kx.of hB))
  replace hn := HT.out.le
  replace T3 := Lib.hid (T3.out.on hB)
  replace T5 := Lib.hid (T5.out.on hB)
  replace T25 := Lib.hid (T25.out.on hB)
  replace code0 := Lib.hid (cell_kept code0.out hB)
  replace code1 := Lib.hid (cell_kept code1.out hB)
  replace code2 := Lib.hid (cell_kept code2.out hB)
  replace code3 := Lib.hid (cell_kept code3.out hB)
  replace code4 := Lib.hid (cell_kept code4.out hB)
  replace jump0 := Lib.hid (cell_kept jump0.out hB)
  replace jump1 := Lib.hid (cell_kept jump1.out hB)
  replace jump2 := Lib.hid (cell_kept jump2.out hB)
  replace jump3 := Lib.hid (cell_kept jump3.out hB)
  replace jump4 := Lib.hid (cell_kept jump4.out hB)
  obtain ⟨f26, c26, rfl⟩ := T26.func
  replace T26 := Lib.hid T26
  clear b2 hB
  go_wp2_with fail
  refine (aeither_any hn T25.out T26.out).mono ?_
  rintro e w27 ⟨v27, rfl, T27, b2⟩
  have hB : Below w26.heap.size w26 w27 := b2
  replace HT := Lib.hid (HT.out.on hB)
  replace HK := Lib.hid (HK.out.trans (Kx.of hB))
  replace hn := HT.out.le
  replace T3 := Lib.hid (T3.out.on hB)
  replace T5 := Lib.hid (T5.out.on hB)
  replace T25 := Lib.hid (T25.out.on hB)
  replace T26 := Lib.hid (T26.out.on hB)
  replace code0 := Lib.hid (cell_kept code0.out hB)
  replace code1 := Lib.hid (cell_kept code1.out hB)
  replace code2 := Lib.hid (cell_kept code2.out hB)
  replace code3 := Lib.hid (cell_kept code3.out hB)
  replace code4 := Lib.hid (cell_kept code4.out hB)
  replace jump0 := Lib.hid (cell_kept jump0.out hB)
  replace jump1 := Lib.hid (cell_kept jump1.out hB)
  replace jump2 := Lib.hid (cell_kept jump2.out hB)
  replace jump3 := Lib.hid (cell_kept jump3.out hB)
  replace jump4 := Lib.hid (cell_kept jump4.out hB)
  obtain ⟨f27, c27, rfl⟩ := T27.func
  replace T27 := Lib.hid T27
  clear b2 hB
  have hS : ShpV nb w27 (#[.nilFunc, .nilFunc, .nilFunc, .nilFunc, (.func (.func f27) #[] c27)] : Array Value).toList { kd := some (tEither (tRow []) (tRow [tExpr])) } := ⟨_, _, _, _, _, rfl, rfl, rfl, rfl, rfl, T27.out⟩
  have hX : Hid (Tab nb b (upd (upd (upd (upd (upd (upd (upd (upd (upd F 40 { kd := some (tEach (tEither (tStat) (tIs [42]))) }) 41 { kd := some (tEach (tEither (tStat) (tIs [42]))) }) 42 { st := some (tName nmd rsv), kd := some (tLast (tIs [2]) (tIs [41])) }) 44 { kd := some (tFirst (tIs [45]) (tIs [45])) }) 45 { st := some (tName nmd rsv), kd := some (tEither (tRow []) (tRow [tExpr])) }) 47 { kd := some (tRow [tExpr]) }) 53 { st := some (tEither (tUnnamed) (tName nmd rsv)) }) 54 { st := some (tEither (tUnnamed) (tName nmd rsv)) }) 55 { kd := some (tEither (tRow []) (tRow [tExpr])) }) (w27.setCells b 275 (#[.nilFunc, .nilFunc, .nilFunc, .nilFunc, (.func (.func f27) #[] c27)] : Array Value).toList) ∧ Kx b w27 (w27.setCells b 275 (#[.nilFunc, .nilFunc, .nilFunc, .nilFunc, (.func (.func f27) #[] c27)] : Array Value).toList)) := Lib.hid (HT.out.set 55 (by omega) hS)
  replace hS := Lib.hid hS.one
  go_wp2_with (refine wpList_store_mid rfl 63 _ _ rfl b 275 #[.nilFunc, .nilFunc, .nilFunc, .nilFunc, (.func (.func f27) #[] c27)] rfl rfl (HT.out.there 55 (by omega)) (by kernel_rfl) hS.out ?_; generalize w27.setCells b 275 (#[.nilFunc, .nilFunc, .nilFunc, .nilFunc, (.func (.func f27) #[] c27)] : Array Value).toList = w28 at hX ⊢; refine Hid.out ?_)
  clear hS
  clear T25 T26 T27
  replace T3 := Lib.hid (T3.out.abv (hX.out.2.abv hb))
  replace T5 := Lib.hid (T5.out.abv (hX.out.2.abv hb))
  replace code0 := Lib.hid ((World.cell?_of_block (hX.out.2.block _ (cell_lt code0.out) (Nat.ne_of_gt hcode))).trans code0.out)
  replace code1 := Lib.hid ((World.cell?_of_block (hX.out.2.block _ (cell_lt code1.out) (Nat.ne_of_gt hcode))).trans code1.out)
  replace code2 := Lib.hid ((World.cell?_of_block (hX.out.2.block _ (cell_lt code2.out) (Nat.ne_of_gt hcode))).trans code2.out)
  replace code3 := Lib.hid ((World.cell?_of_block (hX.out.2.block _ (cell_lt code3.out) (Nat.ne_of_gt hcode))).trans code3.out)
  replace code4 := Lib.hid ((World.cell?_of_block (hX.out.2.block _ (cell_lt code4.out) (Nat.ne_of_gt hcode))).trans code4.out)
  replace jump0 := Lib.hid ((World.cell?_of_block (hX.out.2.block _ (cell_lt jump0.out) (Nat.ne_of_gt hjump))).trans jump0.out)
  replace jump1 := Lib.hid ((World.cell?_of_block (hX.out.2.block _ (cell_lt jump1.out) (Nat.ne_of_gt hjump))).trans jump1.out)
  replace jump2 := Lib.hid ((World.cell?_of_block (hX.out.2.block _ (cell_lt jump2.out) (Nat.ne_of_gt hjump))).trans jump2.out)
  replace jump3 := Lib.hid ((World.cell?_of_block (hX.out.2.block _ (cell_lt jump3.out) (Nat.ne_of_gt hjump))).trans jump3.out)
  replace jump4 := Lib.hid ((World.cell?_of_block (hX.out.2.block _ (cell_lt jump4.out) (Nat.ne_of_gt hjump))).trans jump4.out)
  replace HT := Lib.hid hX.out.1
  replace HK := Lib.hid (HK.out.trans hX.out.2)
  replace hn := HT.out.le
  clear hX
  refine Lib.hid ?_
  go_wp2_with fail
  refine (arow_any (nb := nb) [tExpr] _ _ _ (Nat.le_trans hn (b1 _).size) (new_tsts hn (vs := [(.func (.func 86) #[] #[])]) (ps := [tExpr]) _ ⟨(tst_expr _), trivial⟩ (by simp))).mono ?_
  rintro e w29 ⟨v29, rfl, T29, b2⟩
  have hB : Below w28.heap.size w28 w29 := (b1 _).trans (b2.mono (b1 _).size)
  replace HT := Lib.hid (HT.out.on hB)
  replace HK := Lib.hid (HK.out.trans (Kx.of hB))
  replace hn := HT.out.le
  replace T3 := Lib.hid (T3.out.on hB)
  replace T5 := Lib.hid (T5.out.on hB)
  replace code0 := Lib.hid (cell_kept code0.out hB)
  replace code1 := Lib.hid (cell_kept code1.out hB)
  replace code2 := Lib.hid (cell_kept code2.out hB)
  replace code3 := Lib.hid (cell_kept code3.out hB)
  replace code4 := Lib.hid (cell_kept code4.out hB)
  replace jump0 := Lib.hid (cell_kept jump0.out hB)
  replace jump1 := Lib.hid (cell_kept jump1.out hB)
  replace jump2 := Lib.hid (cell_kept jump2.out hB)
  replace jump3 := Lib.hid (cell_kept jump3.out hB)
  replace jump4 := Lib.hid (cell_kept jump4.out hB)
  obtain ⟨f29, c29, rfl⟩ := T29.func
  replace T29 := Lib.hid T29
  clear b2 hB
  have hS : ShpV nb w29 (#[.nilFunc, .nilFunc, .nilFunc, .nilFunc, (.func (.func f29) #[] c29)] : Array Value).toList { kd := some (tRow [tExpr]) } := ⟨_, _, _, _, _, rfl, rfl, rfl, rfl, rfl, T29.out⟩
  have hX : Hid (Tab nb b (upd (upd (upd (upd (upd (upd (upd (upd (upd (upd F 40 { kd := some (tEach (tEither (tStat) (tIs [42]))) }) 41 { kd := some (tEach (tEither (tStat) (tIs [42]))) }) 42 { st := some (tName nmd rsv), kd := some (tLast (tIs [2]) (tIs [41])) }) 44 { kd := some (tFirst (tIs [45]) (tIs [45])) }) 45 { st := some (tName nmd rsv), kd := some (tEither (tRow []) (tRow [tExpr])) }) 47 { kd := some (tRow [tExpr]) }) 53 { st := some (tEither (tUnnamed) (tName nmd rsv)) }) 54 { st := some (tEither (tUnnamed) (tName nmd rsv)) }) 55 { kd := some (tEither (tRow []) (tRow [tExpr])) }) 59 { kd := some (tRow [tExpr]) }) (w29.setCells b 295 (#[.nilFunc, .nilFunc, .nilFunc, .nilFunc, (.func (.func f29) #[] c29)] : Array Value).toList) ∧ Kx b w29 (w29.setCells b 295 (#[.nilFunc, .nilFunc, .nilFunc, .nilFunc, (.func (.func f29) #[] c29)] : Array Value).toList)) := Lib.hid (HT.out.set 59 (by omega) hS)
  replace hS := Lib.hid hS.one
  go_wp2_with (refine wpList_store_mid rfl 63 _ _ rfl b 295 #[.nilFunc, .nilFunc, .nilFunc, .nilFunc, (.func (.func f29) #[] c29)] rfl rfl (HT.out.there 59 (by omega)) (by kernel_rfl) hS.out ?_; generalize w29.setCells b 295 (#[.nilFunc, .nilFunc, .nilFunc, .nilFunc, (.func (.func f29) #[] c29)] : Array Value).toList = w30 at hX ⊢; refine Hid.out ?_)
  clear hS
  clear T29
  replace T3 := Lib.hid (T3.out.abv (hX.out.2.abv hb))
  replace T5 := Lib.hid (T5.out.abv (hX.out.2.abv hb))
  replace code0 := Lib.hid ((World.cell?_of_block (hX.out.2.block _ (cell_lt code0.out) (Nat.ne_of_gt hcode))).trans code0.out)
  replace code1 := Lib.hid ((World.cell?_of_block (hX.out.2.block _ (cell_lt code1.out) (Nat.ne_of_gt hcode))).trans code1.out)
  replace code2 := Lib.hid ((World.cell?_of_block (hX.out.2.block _ (cell_lt code2.out) (Nat.ne_of_gt hcode))).trans code2.out)
  replace code3 := Lib.hid ((World.cell?_of_block (hX.out.2.block _ (cell_lt code3.out) (Nat.ne_of_gt hcode))).trans code3.out)
  replace code4 := Lib.hid ((World.cell?_of_block (hX.out.2.block _ (cell_lt code4.out) (Nat.ne_of_gt hcode))).trans code4.out)
  replace jump0 := Lib.hid ((World.cell?_of_block (hX.out.2.block _ (cell_lt jump0.out) (Nat.ne_of_gt hjump))).trans jump0.out)
  replace jump1 := Lib.hid ((World.cell?_of_block (hX.out.2.block _ (cell_lt jump1.out) (Nat.ne_of_gt hjump))).trans jump1.out)
  replace jump2 := Lib.hid ((World.cell?_of_block (hX.out.2.block _ (cell_lt jump2.out) (Nat.ne_of_gt hjump))).trans jump2.out)
  replace jump3 := Lib.hid ((World.cell?_of_block (hX.out.2.block _ (cell_lt jump3.out) (Nat.ne_of_gt hjump))).trans jump3.out)
  replace jump4 := Lib.hid ((World.cell?_of_block (hX.out.2.block _ (cell_lt jump4.out) (Nat.ne_of_gt hjump))).trans jump4.out)
  replace HT := Lib.hid hX.out.1
  replace HK := Lib.hid (HK.out.trans hX.out.2)
  replace hn := HT.out.le
  clear hX
  refine Lib.hid ?_
  go_wp2
  go_end0
  exact ⟨⟨_, rfl⟩, HT.out, HK.out⟩
end Go.Proofs.YtfpmhahjemdodaaGreatDoor
