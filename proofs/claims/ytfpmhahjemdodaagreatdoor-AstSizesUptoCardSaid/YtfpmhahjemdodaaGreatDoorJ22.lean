/-
  The program's shapeNested.
-/
import Derived.Test.YtfpmhahjemdodaaGreatDoorJ18
namespace Go.Proofs.YtfpmhahjemdodaaGreatDoor
open Go.RowKit Go.Shelf
attribute [local go_sem] stFl hmf
set_option maxRecDepth 100000 in
set_option maxHeartbeats 4000000 in
theorem ashapeNested_any {nmd rsv : ByteArray → Bool} (hL : Lx nmd rsv) {nb b : Nat} {F : Nat → Shp} (W : World) (hT : Tab nb b F W) :
    Calls Tryz.prog 33 #[.slice (some ⟨b, 0, none⟩) 63 63] W fun e w' => (∃ v, e = .returned v) ∧ Tab nb b (upd (upd (upd (upd (upd (upd (upd (upd (upd (upd (upd F 43 { kd := some (tEach (tStat)) }) 48 { kd := some (tEither (tRow [tExpr, tStat]) (tRow [tExpr, tClosed, tStat])) }) 49 { kd := some (tRow [tStat, tExpr]) }) 50 { kd := some (tRow [tExpr, tStat]) }) 51 { kd := some (tRow [tEither (tEither (tExpr) (tIs [46])) (tIs [44]), tEither (tExpr) (tIs [46]), tEither (tExpr) (tIs [46]), tStat]) }) 52 { kd := some (tRow [tEither (tLeft) (tOneVar), tExpr, tStat]) }) 56 { st := some (tName nmd rsv), kd := some (tRow [tStat]) }) 57 { kd := some (tBoth (tFirst (tExpr) (tIs [58])) (tOneDef)) }) 58 { fl := some (tFree), kd := some (tEither (tBoth (tFlag) (tEach (tStat))) (tBoth (tNot (tFlag)) (tFirst (tExpr) (tStat)))) }) 60 { kd := some (tBoth (tRow [tIs [43], tEither (tIs [61]) (tIs [46]), tEither (tIs [43]) (tIs [46])]) (tNot (tRow [tIs [43], tIs [46], tIs [46]]))) }) 61 { st := some (tName nmd rsv), kd := some (tRow [tIs [43]]) }) w' ∧ Kx b W w' := by
  have hn := hT.le
  have hb := hT.lt
  have HT := Lib.hid hT
  have HK := Lib.hid (Kx.refl b W)
  have HL := Lib.hid hL
  clear hT hL
  go_enter Tryz.func33, Tryz.ntmps33
  go_wp2_with fail
  refine (ais_any (nb := nb) [46] _ _ _ (Nat.le_trans hn (b1 _).size) hn (by simp) (new_cells [46] (fun k => .int .i64 k) W _)).mono ?_
  rintro e w1 ⟨v1, rfl, T1, b2⟩
  have hB : Below W.heap.size W w1 := (b1 _).trans (b2.mono (b1 _).size)
  replace HT := Lib.hid (HT.out.on hB)
  replace HK := Lib.hid (HK.out.trans (Kx.of hB))
  replace hn := HT.out.le
  obtain ⟨f1, c1, rfl⟩ := T1.func
  replace T1 := Lib.hid T1
  clear b2 hB
  go_wp2_with fail
  refine (aeither_any hn (tst_expr _) T1.out).mono ?_
  rintro e w2 ⟨v2, rfl, T2, b2⟩
  have hB : Below w1.heap.size w1 w2 := b2
  replace HT := Lib.hid (HT.out.on hB)
  replace HK := Lib.hid (HK.out.trans (Kx.of hB))
  replace hn := HT.out.le
  replace T1 := Lib.hid (T1.out.on hB)
  obtain ⟨f2, c2, rfl⟩ := T2.func
  replace T2 := Lib.hid T2
  clear b2 hB
  go_wp2_with fail
  refine (ais_any (nb := nb) [43] _ _ _ (Nat.le_trans hn (b1 _).size) hn (by simp) (new_cells [43] (fun k => .int .i64 k) w2 _)).mono ?_
  rintro e w3 ⟨v3, rfl, T3, b2⟩
  have hB : Below w2.heap.size w2 w3 := (b1 _).trans (b2.mono (b1 _).size)
  replace HT := Lib.hid (HT.out.on hB)
  replace HK := Lib.hid (HK.out.trans (Kx.of hB))
  replace hn := HT.out.le
  replace T1 := Lib.hid (T1.out.on hB)
  replace T2 := Lib.hid (T2.out.on hB)
  obtain ⟨f3, c3, rfl⟩ := T3.func
  replace T3 := Lib.hid T3
  clear b2 hB
  go_wp2_with fail
  refine (aeach_any hn (tst_stat _)).mono ?_
  rintro e w4 ⟨v4, rfl, T4, b2⟩
  have hB : Below w3.heap.size w3 w4 := b2
  replace HT := Lib.hid (HT.out.on hB)
  replace HK := Lib.hid (HK.out.trans (Kx.of hB))
  replace hn := HT.out.le
  replace T1 := Lib.hid (T1.out.on hB)
  replace T2 := Lib.hid (T2.out.on hB)
  replace T3 := Lib.hid (T3.out.on hB)
  obtain ⟨f4, c4, rfl⟩ := T4.func
  replace T4 := Lib.hid T4
  clear b2 hB
  have hS : ShpV nb w4 (#[.nilFunc, .nilFunc, .nilFunc, .nilFunc, (.func (.func f4) #[] c4)] : Array Value).toList { kd := some (tEach (tStat)) } := ⟨_, _, _, _, _, rfl, rfl, rfl, rfl, rfl, T4.out⟩
  have hX : Hid (Tab nb b (upd F 43 { kd := some (tEach (tStat)) }) (w4.setCells b 215 (#[.nilFunc, .nilFunc, .nilFunc, .nilFunc, (.func (.func f4) #[] c4)] : Array Value).toList) ∧ Kx b w4 (w4.setCells b 215 (#[.nilFunc, .nilFunc, .nilFunc, .nilFunc, (.func (.func f4) #[] c4)] : Array Value).toList)) := Lib.hid (HT.out.set 43 (by omega) hS)
  replace hS := Lib.hid hS.one
  go_wp2_with (refine wpList_store_mid rfl 63 _ _ rfl b 215 #[.nilFunc, .nilFunc, .nilFunc, .nilFunc, (.func (.func f4) #[] c4)] rfl rfl (HT.out.there 43 (by omega)) (by kernel_rfl) hS.out ?_; generalize w4.setCells b 215 (#[.nilFunc, .nilFunc, .nilFunc, .nilFunc, (.func (.func f4) #[] c4)] : Array Value).toList = w5 at hX ⊢; refine Hid.out ?_)
  clear hS
  clear T4
  replace T1 := Lib.hid (T1.out.abv (hX.out.2.abv hb))
  replace T2 := Lib.hid (T2.out.abv (hX.out.2.abv hb))
  replace T3 := Lib.hid (T3.out.abv (hX.out.2.abv hb))
  replace HT := Lib.hid hX.out.1
  replace HK := Lib.hid (HK.out.trans hX.out.2)
  replace hn := HT.out.le
  clear hX
  refine Lib.hid ?_
  go_wp2_with fail
  refine (arow_any (nb := nb) [tExpr, tStat] _ _ _ (Nat.le_trans hn (b1 _).size) (new_tsts hn (vs := [(.func (.func 86) #[] #[]), (.func (.func 103) #[] #[])]) (ps := [tExpr, tStat]) _ ⟨(tst_expr _), (tst_stat _), trivial⟩ (by simp))).mono ?_
  rintro e w6 ⟨v6, rfl, T6, b2⟩
  have hB : Below w5.heap.size w5 w6 := (b1 _).trans (b2.mono (b1 _).size)
  replace HT := Lib.hid (HT.out.on hB)
  replace HK := Lib.hid (HK.out.trans (Kx.of hB))
  replace hn := HT.out.le
  replace T1 := Lib.hid (T1.out.on hB)
  replace T2 := Lib.hid (T2.out.on hB)
  replace T3 := Lib.hid (T3.out.on hB)
  obtain ⟨f6, c6, rfl⟩ := T6.func
  replace T6 := Lib.hid T6
  clear b2 hB
  go_wp2_with fail
  refine (arow_any (nb := nb) [tExpr, tClosed, tStat] _ _ _ (Nat.le_trans hn (b1 _).size) (new_tsts hn (vs := [(.func (.func 86) #[] #[]), (.func (.func 104) #[] #[]), (.func (.func 103) #[] #[])]) (ps := [tExpr, tClosed, tStat]) _ ⟨(tst_expr _), (tst_closed _), (tst_stat _), trivial⟩ (by simp))).mono ?_
  rintro e w7 ⟨v7, rfl, T7, b2⟩
  have hB : Below w6.heap.size w6 w7 := (b1 _).trans (b2.mono (b1 _).size)
  replace HT := Lib.hid (HT.out.on hB)
  replace HK := Lib.hid (HK.out.trans (Kx.of hB))
  replace hn := HT.out.le
  replace T1 := Lib.hid (T1.out.on hB)
  replace T2 := Lib.hid (T2.out.on hB)
  replace T3 := Lib.hid (T3.out.on hB)
  replace T6 := Lib.hid (T6.out.on hB)
  obtain ⟨f7, c7, rfl⟩ := T7.func
  replace T7 := Lib.hid T7
  clear b2 hB
  go_wp2_with fail
  refine (aeither_any hn T6.out T7.out).mono ?_
  rintro e w8 ⟨v8, rfl, T8, b2⟩
  have hB : Below w7.heap.size w7 w8 := b2
  replace HT := Lib.hid (HT.out.on hB)
  replace HK := Lib.hid (HK.out.trans (Kx.of hB))
  replace hn := HT.out.le
  replace T1 := Lib.hid (T1.out.on hB)
  replace T2 := Lib.hid (T2.out.on hB)
  replace T3 := Lib.hid (T3.out.on hB)
  replace T6 := Lib.hid (T6.out.on hB)
  replace T7 := Lib.hid (T7.out.on hB)
  obtain ⟨f8, c8, rfl⟩ := T8.func
  replace T8 := Lib.hid T8
  clear b2 hB
  have hS : ShpV nb w8 (#[.nilFunc, .nilFunc, .nilFunc, .nilFunc, (.func (.func f8) #[] c8)] : Array Value).toList { kd := some (tEither (tRow [tExpr, tStat]) (tRow [tExpr, tClosed, tStat])) } := ⟨_, _, _, _, _, rfl, rfl, rfl, rfl, rfl, T8.out⟩
  have hX : Hid (Tab nb b (upd (upd F 43 { kd := some (tEach (tStat)) }) 48 { kd := some (tEither (tRow [tExpr, tStat]) (tRow [tExpr, tClosed, tStat])) }) (w8.setCells b 240 (#[.nilFunc, .nilFunc, .nilFunc, .nilFunc, (.func (.func f8) #[] c8)] : Array Value).toList) ∧ Kx b w8 (w8.setCells b 240 (#[.nilFunc, .nilFunc, .nilFunc, .nilFunc, (.func (.func f8) #[] c8)] : Array Value).toList)) := Lib.hid (HT.out.set 48 (by omega) hS)
  replace hS := Lib.hid hS.one
  go_wp2_with (refine wpList_store_mid rfl 63 _ _ rfl b 240 #[.nilFunc, .nilFunc, .nilFunc, .nilFunc, (.func (.func f8) #[] c8)] rfl rfl (HT.out.there 48 (by omega)) (by kernel_rfl) hS.out ?_; generalize w8.setCells b 240 (#[.nilFunc, .nilFunc, .nilFunc, .nilFunc, (.func (.func f8) #[] c8)] : Array Value).toList = w9 at hX ⊢; refine Hid.out ?_)
  clear hS
  clear T6 T7 T8
  replace T1 := Lib.hid (T1.out.abv (hX.out.2.abv hb))
  replace T2 := Lib.hid (T2.out.abv (hX.out.2.abv hb))
  replace T3 := Lib.hid (T3.out.abv (hX.out.2.abv hb))
  replace HT := Lib.hid hX.out.1
  replace HK := Lib.hid (HK.out.trans hX.out.2)
  replace hn := HT.out.le
  clear hX
  refine Lib.hid ?_
  go_wp2_with fail
  refine (arow_any (nb := nb) [tStat, tExpr] _ _ _ (Nat.le_trans hn (b1 _).size) (new_tsts hn (vs := [(.func (.func 103) #[] #[]), (.func (.func 86) #[] #[])]) (ps := [tStat, tExpr]) _ ⟨(tst_stat _), (tst_expr _), trivial⟩ (by simp))).mono ?_
  rintro e w10 ⟨v10, rfl, T10, b2⟩
  have hB : Below w9.heap.size w9 w10 := (b1 _).trans (b2.mono (b1 _).size)
  replace HT := Lib.hid (HT.out.on hB)
  replace HK := Lib.hid (HK.out.trans (Kx.of hB))
  replace hn := HT.out.le
  replace T1 := Lib.hid (T1.out.on hB)
  replace T2 := Lib.hid (T2.out.on hB)
  replace T3 := Lib.hid (T3.out.on hB)
  obtain ⟨f10, c10, rfl⟩ := T10.func
  replace T10 := Lib.hid T10
  clear b2 hB
  have hS : ShpV nb w10 (#[.nilFunc, .nilFunc, .nilFunc, .nilFunc, (.func (.func f10) #[] c10)] : Array Value).toList { kd := some (tRow [tStat, tExpr]) } := ⟨_, _, _, _, _, rfl, rfl, rfl, rfl, rfl, T10.out⟩
  have hX : Hid (Tab nb b (upd (upd (upd F 43 { kd := some (tEach (tStat)) }) 48 { kd := some (tEither (tRow [tExpr, tStat]) (tRow [tExpr, tClosed, tStat])) }) 49 { kd := some (tRow [tStat, tExpr]) }) (w10.setCells b 245 (#[.nilFunc, .nilFunc, .nilFunc, .nilFunc, (.func (.func f10) #[] c10)] : Array Value).toList) ∧ Kx b w10 (w10.setCells b 245 (#[.nilFunc, .nilFunc, .nilFunc, .nilFunc, (.func (.func f10) #[] c10)] : Array Value).toList)) := Lib.hid (HT.out.set 49 (by omega) hS)
  replace hS := Lib.hid hS.one
  go_wp2_with (refine wpList_store_mid rfl 63 _ _ rfl b 245 #[.nilFunc, .nilFunc, .nilFunc, .nilFunc, (.func (.func f10) #[] c10)] rfl rfl (HT.out.there 49 (by omega)) (by kernel_rfl) hS.out ?_; generalize w10.setCells b 245 (#[.nilFunc, .nilFunc, .nilFunc, .nilFunc, (.func (.func f10) #[] c10)] : Array Value).toList = w11 at hX ⊢; refine Hid.out ?_)
  clear hS
  clear T10
  replace T1 := Lib.hid (T1.out.abv (hX.out.2.abv hb))
  replace T2 := Lib.hid (T2.out.abv (hX.out.2.abv hb))
  replace T3 := Lib.hid (T3.out.abv (hX.out.2.abv hb))
  replace HT := Lib.hid hX.out.1
  replace HK := Lib.hid (HK.out.trans hX.out.2)
  replace hn := HT.out.le
  clear hX
  refine Lib.hid ?_
  go_wp2_with fail
  refine (arow_any (nb := nb) [tExpr, tStat] _ _ _ (Nat.le_trans hn (b1 _).size) (new_tsts hn (vs := [(.func (.func 86) #[] #[]), (.func (.func 103) #[] #[])]) (ps := [tExpr, tStat]) _ ⟨(tst_expr _), (tst_stat _), trivial⟩ (by simp))).mono ?_
  rintro e w12 ⟨v12, rfl, T12, b2⟩
  have hB : Below w11.heap.size w11 w12 := (b1 _).trans (b2.mono (b1 _).size)
  replace HT := Lib.hid (HT.out.on hB)
  replace HK := Lib.hid (HK.out.trans (Kx.of hB))
  replace hn := HT.out.le
  replace T1 := Lib.hid (T1.out.on hB)
  replace T2 := Lib.hid (T2.out.on hB)
  replace T3 := Lib.hid (T3.out.on hB)
  obtain ⟨f12, c12, rfl⟩ := T12.func
  replace T12 := Lib.hid T12
  clear b2 hB
  have hS : ShpV nb w12 (#[.nilFunc, .nilFunc, .nilFunc, .nilFunc, (.func (.func f12) #[] c12)] : Array Value).toList { kd := some (tRow [tExpr, tStat]) } := ⟨_, _, _, _, _, rfl, rfl, rfl, rfl, rfl, T12.out⟩
  have hX : Hid (Tab nb b (upd (upd (upd (upd F 43 { kd := some (tEach (tStat)) }) 48 { kd := some (tEither (tRow [tExpr, tStat]) (tRow [tExpr, tClosed, tStat])) }) 49 { kd := some (tRow [tStat, tExpr]) }) 50 { kd := some (tRow [tExpr, tStat]) }) (w12.setCells b 250 (#[.nilFunc, .nilFunc, .nilFunc, .nilFunc, (.func (.func f12) #[] c12)] : Array Value).toList) ∧ Kx b w12 (w12.setCells b 250 (#[.nilFunc, .nilFunc, .nilFunc, .nilFunc, (.func (.func f12) #[] c12)] : Array Value).toList)) := Lib.hid (HT.out.set 50 (by omega) hS)
  replace hS := Lib.hid hS.one
  go_wp2_with (refine wpList_store_mid rfl 63 _ _ rfl b 250 #[.nilFunc, .nilFunc, .nilFunc, .nilFunc, (.func (.func f12) #[] c12)] rfl rfl (HT.out.there 50 (by omega)) (by kernel_rfl) hS.out ?_; generalize w12.setCells b 250 (#[.nilFunc, .nilFunc, .nilFunc, .nilFunc, (.func (.func f12) #[] c12)] : Array Value).toList = w13 at hX ⊢; refine Hid.out ?_)
  clear hS
  clear T12
  replace T1 := Lib.hid (T1.out.abv (hX.out.2.abv hb))
  replace T2 := Lib.hid (T2.out.abv (hX.out.2.abv hb))
  replace T3 := Lib.hid (T3.out.abv (hX.out.2.abv hb))
  replace HT := Lib.hid hX.out.1
  replace HK := Lib.hid (HK.out.trans hX.out.2)
  replace hn := HT.out.le
  clear hX
  refine Lib.hid ?_
  go_wp2_with fail
  refine (ais_any (nb := nb) [44] _ _ _ (Nat.le_trans hn (b1 _).size) hn (by simp) (new_cells [44] (fun k => .int .i64 k) w13 _)).mono ?_
  rintro e w14 ⟨v14, rfl, T14, b2⟩
  have hB : Below w13.heap.size w13 w14 := (b1 _).trans (b2.mono (b1 _).size)
  replace HT := Lib.hid (HT.out.on hB)
  replace HK := Lib.hid (HK.out.trans (Kx.of hB))
  replace hn := HT.out.le
  replace T1 := Lib.hid (T1.out.on hB)
  replace T2 := Lib.hid (T2.out.on hB)
  replace T3 := Lib.hid (T3.out.on hB)
  obtain ⟨f14, c14, rfl⟩ := T14.func
  replace T14 := Lib.hid T14
  clear b2 hB
  go_wp2_with fail
  refine (aeither_any hn T2.out T14.out).mono ?_
  rintro e w15 ⟨v15, rfl, T15, b2⟩
  have hB : Below w14.heap.size w14 w15 := b2
  replace HT := Lib.hid (HT.out.on hB)
  replace HK := Lib.hid (HK.out.trans (Kx.of hB))
  replace hn := HT.out.le
  replace T1 := Lib.hid (T1.out.on hB)
  replace T2 := Lib.hid (T2.out.on hB)
  replace T3 := Lib.hid (T3.out.on hB)
  replace T14 := Lib.hid (T14.out.on hB)
  obtain ⟨f15, c15, rfl⟩ := T15.func
  replace T15 := Lib.hid T15
  clear b2 hB
  go_wp2_with fail
  refine (arow_any (nb := nb) [tEither (tEither (tExpr) (tIs [46])) (tIs [44]), tEither (tExpr) (tIs [46]), tEither (tExpr) (tIs [46]), tStat] _ _ _ (Nat.le_trans hn (b1 _).size) (new_tsts hn (vs := [(.func (.func f15) #[] c15), (.func (.func f2) #[] c2), (.func (.func f2) #[] c2), (.func (.func 103) #[] #[])]) (ps := [tEither (tEither (tExpr) (tIs [46])) (tIs [44]), tEither (tExpr) (tIs [46]), tEither (tExpr) (tIs [46]), tStat]) _ ⟨T15.out, T2.out, T2.out, (tst_stat _), trivial⟩ (by simp))).mono ?_
  rintro e w16 ⟨v16, rfl, T16, b2⟩
  have hB : Below w15.heap.size w15 w16 := (b1 _).trans (b2.mono (b1 _).size)
  replace HT := Lib.hid (HT.out.on hB)
  replace HK := Lib.hid (HK.out.trans (Kx.of hB))
  replace hn := HT.out.le
  replace T1 := Lib.hid (T1.out.on hB)
  replace T2 := Lib.hid (T2.out.on hB)
  replace T3 := Lib.hid (T3.out.on hB)
  replace T14 := Lib.hid (T14.out.on hB)
  replace T15 := Lib.hid (T15.out.on hB)
  obtain ⟨f16, c16, rfl⟩ := T16.func
  replace T16 := Lib.hid T16
  clear b2 hB
  have hS : ShpV nb w16 (#[.nilFunc, .nilFunc, .nilFunc, .nilFunc, (.func (.func f16) #[] c16)] : Array Value).toList { kd := some (tRow [tEither (tEither (tExpr) (tIs [46])) (tIs [44]), tEither (tExpr) (tIs [46]), tEither (tExpr) (tIs [46]), tStat]) } := ⟨_, _, _, _, _, rfl, rfl, rfl, rfl, rfl, T16.out⟩
  have hX : Hid (Tab nb b (upd (upd (upd (upd (upd F 43 { kd := some (tEach (tStat)) }) 48 { kd := some (tEither (tRow [tExpr, tStat]) (tRow [tExpr, tClosed, tStat])) }) 49 { kd := some (tRow [tStat, tExpr]) }) 50 { kd := some (tRow [tExpr, tStat]) }) 51 { kd := some (tRow [tEither (tEither (tExpr) (tIs [46])) (tIs [44]), tEither (tExpr) (tIs [46]), tEither (tExpr) (tIs [46]), tStat]) }) (w16.setCells b 255 (#[.nilFunc, .nilFunc, .nilFunc, .nilFunc, (.func (.func f16) #[] c16)] : Array Value).toList) ∧ Kx b w16 (w16.setCells b 255 (#[.nilFunc, .nilFunc, .nilFunc, .nilFunc, (.func (.func f16) #[] c16)] : Array Value).toList)) := Lib.hid (HT.out.set 51 (by omega) hS)
  replace hS := Lib.hid hS.one
  go_wp2_with (refine wpList_store_mid rfl 63 _ _ rfl b 255 #[.nilFunc, .nilFunc, .nilFunc, .nilFunc, (.func (.func f16) #[] c16)] rfl rfl (HT.out.there 51 (by omega)) (by kernel_rfl) hS.out ?_; generalize w16.setCells b 255 (#[.nilFunc, .nilFunc, .nilFunc, .nilFunc, (.func (.func f16) #[] c16)] : Array Value).toList = w17 at hX ⊢; refine Hid.out ?_)
  clear hS
  clear T14 T15 T16
  replace T1 := Lib.hid (T1.out.abv (hX.out.2.abv hb))
  replace T2 := Lib.hid (T2.out.abv (hX.out.2.abv hb))
  replace T3 := Lib.hid (T3.out.abv (hX.out.2.abv hb))
  replace HT := Lib.hid hX.out.1
  replace HK := Lib.hid (HK.out.trans hX.out.2)
  replace hn := HT.out.le
  clear hX
  refine Lib.hid ?_
  go_wp2_with fail
  refine (aeither_any hn (tst_left _) (tst_onevar _)).mono ?_
  rintro e w18 ⟨v18, rfl, T18, b2⟩
  have hB : Below w17.heap.size w17 w18 := b2
  replace HT := Lib.hid (HT.out.on hB)
  replace HK := Lib.hid (HK.out.trans (Kx.of hB))
  replace hn := HT.out.le
  replace T1 := Lib.hid (T1.out.on hB)
  replace T2 := Lib.hid (T2.out.on hB)
  replace T3 := Lib.hid (T3.out.on hB)
  obtain ⟨f18, c18, rfl⟩ := T18.func
  replace T18 := Lib.hid T18
  clear b2 hB
  go_wp2_with fail
  refine (arow_any (nb := nb) [tEither (tLeft) (tOneVar), tExpr, tStat] _ _ _ (Nat.le_trans hn (b1 _).size) (new_tsts hn (vs := [(.func (.func f18) #[] c18), (.func (.func 86) #[] #[]), (.func (.func 103) #[] #[])]) (ps := [tEither (tLeft) (tOneVar), tExpr, tStat]) _ ⟨T18.out, (tst_expr _), (tst_stat _), trivial⟩ (by simp))).mono ?_
  rintro e w19 ⟨v19, rfl, T19, b2⟩
  have hB : Below w18.heap.size w18 w19 := (b1 _).trans (b2.mono (b1 _).size)
  replace HT := Lib.hid (HT.out.on hB)
  replace HK := Lib.hid (HK.out.trans (Kx.of hB))
  replace hn := HT.out.le
  replace T1 := Lib.hid (T1.out.on hB)
  replace T2 := Lib.hid (T2.out.on hB)
  replace T3 := Lib.hid (T3.out.on hB)
  replace T18 := Lib.hid (T18.out.on hB)
  obtain ⟨f19, c19, rfl⟩ := T19.func
  replace T19 := Lib.hid T19
  clear b2 hB
  have hS : ShpV nb w19 (#[.nilFunc, .nilFunc, .nilFunc, .nilFunc, (.func (.func f19) #[] c19)] : Array Value).toList { kd := some (tRow [tEither (tLeft) (tOneVar), tExpr, tStat]) } := ⟨_, _, _, _, _, rfl, rfl, rfl, rfl, rfl, T19.out⟩
  have hX : Hid (Tab nb b (upd (upd (upd (upd (upd (upd F 43 { kd := some (tEach (tStat)) }) 48 { kd := some (tEither (tRow [tExpr, tStat]) (tRow [tExpr, tClosed, tStat])) }) 49 { kd := some (tRow [tStat, tExpr]) }) 50 { kd := some (tRow [tExpr, tStat]) }) 51 { kd := some (tRow [tEither (tEither (tExpr) (tIs [46])) (tIs [44]), tEither (tExpr) (tIs [46]), tEither (tExpr) (tIs [46]), tStat]) }) 52 { kd := some (tRow [tEither (tLeft) (tOneVar), tExpr, tStat]) }) (w19.setCells b 260 (#[.nilFunc, .nilFunc, .nilFunc, .nilFunc, (.func (.func f19) #[] c19)] : Array Value).toList) ∧ Kx b w19 (w19.setCells b 260 (#[.nilFunc, .nilFunc, .nilFunc, .nilFunc, (.func (.func f19) #[] c19)] : Array Value).toList)) := Lib.hid (HT.out.set 52 (by omega) hS)
  replace hS := Lib.hid hS.one
  go_wp2_with (refine wpList_store_mid rfl 63 _ _ rfl b 260 #[.nilFunc, .nilFunc, .nilFunc, .nilFunc, (.func (.func f19) #[] c19)] rfl rfl (HT.out.there 52 (by omega)) (by kernel_rfl) hS.out ?_; generalize w19.setCells b 260 (#[.nilFunc, .nilFunc, .nilFunc, .nilFunc, (.func (.func f19) #[] c19)] : Array Value).toList = w20 at hX ⊢; refine Hid.out ?_)
  clear hS
  clear T18 T19
  replace T1 := Lib.hid (T1.out.abv (hX.out.2.abv hb))
  replace T2 := Lib.hid (T2.out.abv (hX.out.2.abv hb))
  replace T3 := Lib.hid (T3.out.abv (hX.out.2.abv hb))
  replace HT := Lib.hid hX.out.1
  replace HK := Lib.hid (HK.out.trans hX.out.2)
  replace hn := HT.out.le
  clear hX
  refine Lib.hid ?_
  go_wp2_with fail
  refine (arow_any (nb := nb) [tStat] _ _ _ (Nat.le_trans hn (b1 _).size) (new_tsts hn (vs := [(.func (.func 103) #[] #[])]) (ps := [tStat]) _ ⟨(tst_stat _), trivial⟩ (by simp))).mono ?_
  rintro e w21 ⟨v21, rfl, T21, b2⟩
  have hB : Below w20.heap.size w20 w21 := (b1 _).trans (b2.mono (b1 _).size)
  replace HT := Lib.hid (HT.out.on hB)
  replace HK := Lib.hid (HK.out.trans (Kx.of hB))
  replace hn := HT.out.le
  replace T1 := Lib.hid (T1.out.on hB)
  replace T2 := Lib.hid (T2.out.on hB)
  replace T3 := Lib.hid (T3.out.on hB)
  obtain ⟨f21, c21, rfl⟩ := T21.func
  replace T21 := Lib.hid T21
  clear b2 hB
  have hS : ShpV nb w21 (#[.nilFunc, (.func (.func 87) #[] #[]), .nilFunc, .nilFunc, (.func (.func f21) #[] c21)] : Array Value).toList { st := some (tName nmd rsv), kd := some (tRow [tStat]) } := ⟨_, _, _, _, _, rfl, rfl, (tst_name HL.out _), rfl, rfl, T21.out⟩
  have hX : Hid (Tab nb b (upd (upd (upd (upd (upd (upd (upd F 43 { kd := some (tEach (tStat)) }) 48 { kd := some (tEither (tRow [tExpr, tStat]) (tRow [tExpr, tClosed, tStat])) }) 49 { kd := some (tRow [tStat, tExpr]) }) 50 { kd := some (tRow [tExpr, tStat]) }) 51 { kd := some (tRow [tEither (tEither (tExpr) (tIs [46])) (tIs [44]), tEither (tExpr) (tIs [46]), tEither (tExpr) (tIs [46]), tStat]) }) 52 { kd := some (tRow [tEither (tLeft) (tOneVar), tExpr, tStat]) }) 56 { st := some (tName nmd rsv), kd := some (tRow [tStat]) }) (w21.setCells b 280 (#[.nilFunc, (.func (.func 87) #[] #[]), .nilFunc, .nilFunc, (.func (.func f21) #[] c21)] : Array Value).toList) ∧ Kx b w21 (w21.setCells b 280 (#[.nilFunc, (.func (.func 87) #[] #[]), .nilFunc, .nilFunc, (.func (.func f21) #[] c21)] : Array Value).toList)) := Lib.hid (HT.out.set 56 (by omega) hS)
  replace hS := Lib.hid hS.one
  go_wp2_with (refine wpList_store_mid rfl 63 _ _ rfl b 280 #[.nilFunc, (.func (.func 87) #[] #[]), .nilFunc, .nilFunc, (.func (.func f21) #[] c21)] rfl rfl (HT.out.there 56 (by omega)) (by kernel_rfl) hS.out ?_; generalize w21.setCells b 280 (#[.nilFunc, (.func (.func 87) #[] #[]), .nilFunc, .nilFunc, (.func (.func f21) #[] c21)] : Array Value).toList = w22 at hX ⊢; refine Hid.out ?_)
  clear hS
  clear T21
  replace T1 := Lib.hid (T1.out.abv (hX.out.2.abv hb))
  replace T2 := Lib.hid (T2.out.abv (hX.out.2.abv hb))
  replace T3 := Lib.hid (T3.out.abv (hX.out.2.abv hb))
  replace HT := Lib.hid hX.out.1
  replace HK := Lib.hid (HK.out.trans hX.out.2)
  replace hn := HT.out.le
  clear hX
  refine Lib.hid ?_
  go_wp2_with fail
  refine (ais_any (nb := nb) [58] _ _ _ (Nat.le_trans hn (b1 _).size) hn (by simp) (new_cells [58] (fun k => .int .i64 k) w22 _)).mono ?_
  rintro e w23 ⟨v23, rfl, T23, b2⟩
  have hB : Below w22.heap.size w22 w23 := (b1 _).trans (b2.mono (b1 _).size)
  replace HT := Lib.hid (HT.out.on hB)
  replace HK := Lib.hid (HK.out.trans (Kx.of hB))
  replace hn := HT.out.le
  replace T1 := Lib.hid (T1.out.on hB)
  replace T2 := Lib.hid (T2.out.on hB)
  replace T3 := Lib.hid (T3.out.on hB)
  obtain ⟨f23, c23, rfl⟩ := T23.func
  replace T23 := Lib.hid T23
  clear b2 hB
  go_wp2_with fail
  refine (afirst_any hn (tst_expr _) T23.out).mono ?_
  rintro e w24 ⟨v24, rfl, T24, b2⟩
  have hB : Below w23.heap.size w23 w24 := b2
  replace HT := Lib.hid (HT.out.on hB)
  replace HK := Lib.hid (HK.out.trans (Kx.of hB))
  replace hn := HT.out.le
  replace T1 := Lib.hid (T1.out.on hB)
  replace T2 := Lib.hid (T2.out.on hB)
  replace T3 := Lib.hid (T3.out.on hB)
  replace T23 := Lib.hid (T23.out.on hB)
  obtain ⟨f24, c24, rfl⟩ := T24.func
  replace T24 := Lib.hid T24
  clear b2 hB
  go_wp2_with fail
  refine (aboth_any hn T24.out (tst_onedef _)).mono ?_
  rintro e w25 ⟨v25, rfl, T25, b2⟩
  have hB : Below w24.heap.size w24 w25 := b2
  replace HT := Lib.hid (HT.out.on hB)
  replace HK := Lib.hid (HK.out.trans (Kx.of hB))
  replace hn := HT.out.le
  replace T1 := Lib.hid (T1.out.on hB)
  replace T2 := Lib.hid (T2.out.on hB)
  replace T3 := Lib.hid (T3.out.on hB)
  replace T23 := Lib.hid (T23.out.on hB)
  replace T24 := Lib.hid (T24.out.on hB)
  obtain ⟨f25, c25, rfl⟩ := T25.func
  replace T25 := Lib.hid T25
  clear b2 hB
  have hS : ShpV nb w25 (#[.nilFunc, .nilFunc, .nilFunc, .nilFunc, (.func (.func f25) #[] c25)] : Array Value).toList { kd := some (tBoth (tFirst (tExpr) (tIs [58])) (tOneDef)) } := ⟨_, _, _, _, _, rfl, rfl, rfl, rfl, rfl, T25.out⟩
  have hX : Hid (Tab nb b (upd (upd (upd (upd (upd (upd (upd (upd F 43 { kd := some (tEach (tStat)) }) 48 { kd := some (tEither (tRow [tExpr, tStat]) (tRow [tExpr, tClosed, tStat])) }) 49 { kd := some (tRow [tStat, tExpr]) }) 50 { kd := some (tRow [tExpr, tStat]) }) 51 { kd := some (tRow [tEither (tEither (tExpr) (tIs [46])) (tIs [44]), tEither (tExpr) (tIs [46]), tEither (tExpr) (tIs [46]), tStat]) }) 52 { kd := some (tRow [tEither (tLeft) (tOneVar), tExpr, tStat]) }) 56 { st := some (tName nmd rsv), kd := some (tRow [tStat]) }) 57 { kd := some (tBoth (tFirst (tExpr) (tIs [58])) (tOneDef)) }) (w25.setCells b 285 (#[.nilFunc, .nilFunc, .nilFunc, .nilFunc, (.func (.func f25) #[] c25)] : Array Value).toList) ∧ Kx b w25 (w25.setCells b 285 (#[.nilFunc, .nilFunc, .nilFunc, .nilFunc, (.func (.func f25) #[] c25)] : Array Value).toList)) := Lib.hid (HT.out.set 57 (by omega) hS)
  replace hS := Lib.hid hS.one
  go_wp2_with (refine wpList_store_mid rfl 63 _ _ rfl b 285 #[.nilFunc, .nilFunc, .nilFunc, .nilFunc, (.func (.func f25) #[] c25)] rfl rfl (HT.out.there 57 (by omega)) (by kernel_rfl) hS.out ?_; generalize w25.setCells b 285 (#[.nilFunc, .nilFunc, .nilFunc, .nilFunc, (.func (.func f25) #[] c25)] : Array Value).toList = w26 at hX ⊢; refine Hid.out ?_)
  clear hS
  clear T23 T24 T25
  replace T1 := Lib.hid (T1.out.abv (hX.out.2.abv hb))
  replace T2 := Lib.hid (T2.out.abv (hX.out.2.abv hb))
  replace T3 := Lib.hid (T3.out.abv (hX.out.2.abv hb))
  replace HT := Lib.hid hX.out.1
  replace HK := Lib.hid (HK.out.trans hX.out.2)
  replace hn := HT.out.le
  clear hX
  refine Lib.hid ?_
  go_wp2_with fail
  refine (aeach_any hn (tst_stat _)).mono ?_
  rintro e w27 ⟨v27, rfl, T27, b2⟩
  have hB : Below w26.heap.size w26 w27 := b2
  replace HT := Lib.hid (HT.out.on hB)
  replace HK := Lib.hid (HK.out.trans (Kx.of hB))
  replace hn := HT.out.le
  replace T1 := Lib.hid (T1.out.on hB)
  replace T2 := Lib.hid (T2.out.on hB)
  replace T3 := Lib.hid (T3.out.on hB)
  obtain ⟨f27, c27, rfl⟩ := T27.func
  replace T27 := Lib.hid T27
  clear b2 hB
  go_wp2_with fail
  refine (aboth_any hn (tst_flag _) T27.out).mono ?_
  rintro e w28 ⟨v28, rfl, T28, b2⟩
  have hB : Below w27.heap.size w27 w28 := b2
  replace HT := Lib.hid (HT.out.on hB)
  replace HK := Lib.hid (HK.out.trans (Kx.of hB))
  replace hn := HT.out.le
  replace T1 := Lib.hid (T1.out.on hB)
  replace T2 := Lib.hid (T2.out.on hB)
  replace T3 := Lib.hid (T3.out.on hB)
  replace T27 := Lib.hid (T27.out.on hB)
  obtain ⟨f28, c28, rfl⟩ := T28.func
  replace T28 := Lib.hid T28
  clear b2 hB
  go_wp2_with fail
  refine (anot_any hn (tst_flag _)).mono ?_
  rintro e w29 ⟨v29, rfl, T29, b2⟩
  have hB : Below w28.heap.size w28 w29 := b2
  replace HT := Lib.hid (HT.out.on hB)
  replace HK := Lib.hid (HK.out.trans (Kx.of hB))
  replace hn := HT.out.le
  replace T1 := Lib.hid (T1.out.on hB)
  replace T2 := Lib.hid (T2.out.on hB)
  replace T3 := Lib.hid (T3.out.on hB)
  replace T27 := Lib.hid (T27.out.on hB)
  replace T28 := Lib.hid (T28.out.on hB)
  obtain ⟨f29, c29, rfl⟩ := T29.func
  replace T29 := Lib.hid T29
  clear b2 hB
  go_wp2_with fail
  refine (afirst_any hn (tst_expr _) (tst_stat _)).mono ?_
  rintro e w30 ⟨v30, rfl, T30, b2⟩
  have hB : Below w29.heap.size w29 w30 := b2
  replace HT := Lib.hid (HT.out.on hB)
  replace HK := Lib.hid (HK.out.trans (Kx.of hB))
  replace hn := HT.out.le
  replace T1 := Lib.hid (T1.out.on hB)
  replace T2 := Lib.hid (T2.out.on hB)
  replace T3 := Lib.hid (T3.out.on hB)
  replace T27 := Lib.hid (T27.out.on hB)
  replace T28 := Lib.hid (T28.out.on hB)
  replace T29 := Lib.hid (T29.out.on hB)
  obtain ⟨f30, c30, rfl⟩ := T30.func
  replace T30 := Lib.hid T30
  clear b2 hB
  go_wp2_with fail
  refine (aboth_any hn T29.out T30.out).mono ?_
  rintro e w31 ⟨v31, rfl, T31, b2⟩
  have hB : Below w30.heap.size w30 w31 := b2
  replace HT := Lib.hid (HT.out.on hB)
  replace HK := Lib.hid (HK.out.trans (Kx.of hB))
  replace hn := HT.out.le
  replace T1 := Lib.hid (T1.out.on hB)
  replace T2 := Lib.hid (T2.out.on hB)
  replace T3 := Lib.hid (T3.out.on hB)
  replace T27 := Lib.hid (T27.out.on hB)
  replace T28 := Lib.hid (T28.out.on hB)
  replace T29 := Lib.hid (T29.out.on hB)
  replace T30 := Lib.hid (T30.out.on hB)
  obtain ⟨f31, c31, rfl⟩ := T31.func
  replace T31 := Lib.hid T31
  clear b2 hB
  go_wp2_with fail
  refine (aeither_any hn T28.out T31.out).mono ?_
  rintro e w32 ⟨v32, rfl, T32, b2⟩
  have hB : Below w31.heap.size w31 w32 := b2
  replace HT := Lib.hid (HT.out.on hB)
  replace HK := Lib.hid (HK.out.trans (Kx.of hB))
  replace hn := HT.out.le
  replace T1 := Lib.hid (T1.out.on hB)
  replace T2 := Lib.hid (T2.out.on hB)
  replace T3 := Lib.hid (T3.out.on hB)
  replace T27 := Lib.hid (T27.out.on hB)
  replace T28 := Lib.hid (T28.out.on hB)
  replace T29 := Lib.hid (T29.out.on hB)
  replace T30 := Lib.hid (T30.out.on hB)
  replace T31 := Lib.hid (T31.out.on hB)
  obtain ⟨f32, c32, rfl⟩ := T32.func
  replace T32 := Lib.hid T32
  clear b2 hB
  have hS : ShpV nb w32 (#[.nilFunc, .nilFunc, .nilFunc, (.func (.func 88) #[] #[]), (.func (.func f32) #[] c32)] : Array Value).toList { fl := some (tFree), kd := some (tEither (tBoth (tFlag) (tEach (tStat))) (tBoth (tNot (tFlag)) (tFirst (tExpr) (tStat)))) } := ⟨_, _, _, _, _, rfl, rfl, rfl, rfl, (tst_free _), T32.out⟩
  have hX : Hid (Tab nb b (upd (upd (upd (upd (upd (upd (upd (upd (upd F 43 { kd := some (tEach (tStat)) }) 48 { kd := some (tEither (tRow [tExpr, tStat]) (tRow [tExpr, tClosed, tStat])) }) 49 { kd := some (tRow [tStat, tExpr]) }) 50 { kd := some (tRow [tExpr, tStat]) }) 51 { kd := some (tRow [tEither (tEither (tExpr) (tIs [46])) (tIs [44]), tEither (tExpr) (tIs [46]), tEither (tExpr) (tIs [46]), tStat]) }) 52 { kd := some (tRow [tEither (tLeft) (tOneVar), tExpr, tStat]) }) 56 { st := some (tName nmd rsv), kd := some (tRow [tStat]) }) 57 { kd := some (tBoth (tFirst (tExpr) (tIs [58])) (tOneDef)) }) 58 { fl := some (tFree), kd := some (tEither (tBoth (tFlag) (tEach (tStat))) (tBoth (tNot (tFlag)) (tFirst (tExpr) (tStat)))) }) (w32.setCells b 290 (#[.nilFunc, .nilFunc, .nilFunc, (.func (.func 88) #[] #[]), (.func (.func f32) #[] c32)] : Array Value).toList) ∧ Kx b w32 (w32.setCells b 290 (#[.nilFunc, .nilFunc, .nilFunc, (.func (.func 88) #[] #[]), (.func (.func f32) #[] c32)] : Array Value).toList)) := Lib.hid (HT.out.set 58 (by omega) hS)
  replace hS := Lib.hid hS.one
  go_wp2_with (refine wpList_store_mid rfl 63 _ _ rfl b 290 #[.nilFunc, .nilFunc, .nilFunc, (.func (.func 88) #[] #[]), (.func (.func f32) #[] c32)] rfl rfl (HT.out.there 58 (by omega)) (by kernel_rfl) hS.out ?_; generalize w32.setCells b 290 (#[.nilFunc, .nilFunc, .nilFunc, (.func (.func 88) #[] #[]), (.func (.func f32) #[] c32)] : Array Value).toList = w33 at hX ⊢; refine Hid.out ?_)
  clear hS
  clear T27 T28 T29 T30 T31 T32
  replace T1 := Lib.hid (T1.out.abv (hX.out.2.abv hb))
  replace T2 := Lib.hid (T2.out.abv (hX.out.2.abv hb))
  replace T3 := Lib.hid (T3.out.abv (hX.out.2.abv hb))
  replace HT := Lib.hid hX.out.1
  replace HK := Lib.hid (HK.out.trans hX.out.2)
  replace hn := HT.out.le
  clear hX
  refine Lib.hid ?_
  go_wp2_with fail
  refine (ais_any (nb := nb) [61] _ _ _ (Nat.le_trans hn (b1 _).size) hn (by simp) (new_cells [61] (fun k => .int .i64 k) w33 _)).mono ?_
  rintro e w34 ⟨v34, rfl, T34, b2⟩
  have hB : Below w33.heap.size w33 w34 := (b1 _).trans (b2.mono (b1 _).size)
  replace HT := Lib.hid (HT.out.on hB)
  replace HK := Lib.hid (HK.out.trans (Kx.of hB))
  replace hn := HT.out.le
  replace T1 := Lib.hid (T1.out.on hB)
  replace T2 := Lib.hid (T2.out.on hB)
  replace T3 := Lib.hid (T3.out.on hB)
  obtain ⟨f34, c34, rfl⟩ := T34.func
  replace T34 := Lib.hid T34
  clear b2 hB
  go_wp2_with fail
  refine (aeither_any hn T34.out T1.out).mono ?_
  rintro e w35 ⟨v35, rfl, T35, b2⟩
  have hB : Below w34.heap.size w34 w35 := b2
  replace HT := Lib.hid (HT.out.on hB)
  replace HK := Lib.hid (HK.out.trans (Kx.of hB))
  replace hn := HT.out.le
  replace T1 := Lib.hid (T1.out.on hB)
  replace T2 := Lib.hid (T2.out.on hB)
  replace T3 := Lib.hid (T3.out.on hB)
  replace T34 := Lib.hid (T34.out.on hB)
  obtain ⟨f35, c35, rfl⟩ := T35.func
  replace T35 := Lib.hid T35
  clear b2 hB
  go_wp2_with fail
  refine (aeither_any hn T3.out T1.out).mono ?_
  rintro e w36 ⟨v36, rfl, T36, b2⟩
  have hB : Below w35.heap.size w35 w36 := b2
  replace HT := Lib.hid (HT.out.on hB)
  replace HK := Lib.hid (HK.out.trans (Kx.of hB))
  replace hn := HT.out.le
  replace T1 := Lib.hid (T1.out.on hB)
  replace T2 := Lib.hid (T2.out.on hB)
  replace T3 := Lib.hid (T3.out.on hB)
  replace T34 := Lib.hid (T34.out.on hB)
  replace T35 := Lib.hid (T35.out.on hB)
  obtain ⟨f36, c36, rfl⟩ := T36.func
  replace T36 := Lib.hid T36
  clear b2 hB
  go_wp2_with fail
  refine (arow_any (nb := nb) [tIs [43], tEither (tIs [61]) (tIs [46]), tEither (tIs [43]) (tIs [46])] _ _ _ (Nat.le_trans hn (b1 _).size) (new_tsts hn (vs := [(.func (.func f3) #[] c3), (.func (.func f35) #[] c35), (.func (.func f36) #[] c36)]) (ps := [tIs [43], tEither (tIs [61]) (tIs [46]), tEither (tIs [43]) (tIs [46])]) _ ⟨T3.out, T35.out, T36.out, trivial⟩ (by simp))).mono ?_
  rintro e w37 ⟨v37, rfl, T37, b2⟩
  have hB : Below w36.heap.size w36 w37 := (b1 _).trans (b2.mono (b1 _).size)
  replace HT := Lib.hid (HT.out.on hB)
  replace HK := Lib.hid (HK.out.trans (Kx.of hB))
  replace hn := HT.out.le
  replace T1 := Lib.hid (T1.out.on hB)
  replace T2 := Lib.hid (T2.out.on hB)
  replace T3 := Lib.hid (T3.out.on hB)
  replace T34 := Lib.hid (T34.out.on hB)
  replace T35 := Lib.hid (T35.out.on hB)
  replace T36 := Lib.hid (T36.out.on hB)
  obtain ⟨f37, c37, rfl⟩ := T37.func
  replace T37 := Lib.hid T37
  clear b2 hB
  go_wp2_with fail
  refine (arow_any (nb := nb) [tIs [43], tIs [46], tIs [46]] _ _ _ (Nat.le_trans hn (b1 _).size) (new_tsts hn (vs := [(.func (.func f3) #[] c3), (.func (.func f1) #[] c1), (.func (.func f1) #[] c1)]) (ps := [tIs [43], tIs [46], tIs [46]]) _ ⟨T3.out, T1.out, T1.out, trivial⟩ (by simp))).mono ?_
  rintro e w38 ⟨v38, rfl, T38, b2⟩
  have hB : Below w37.heap.size w37 w38 := (b1 _).trans (b2.mono (b1 _).size)
  replace HT := Lib.hid (HT.out.on hB)
  replace HK := Lib.hid (HK.out.trans (Kx.of hB))
  replace hn := HT.out.le
  replace T1 := Lib.hid (T1.out.on hB)
  replace T2 := Lib.hid (T2.out.on hB)
  replace T3 := Lib.hid (T3.out.on hB)
  replace T34 := Lib.hid (T34.out.on hB)
  replace T35 := Lib.hid (T35.out.on hB)
  replace T36 := Lib.hid (T36.out.on hB)
  replace T37 := Lib.hid (T37.out.on hB)
  obtain ⟨f38, c38, rfl⟩ := T38.func
  replace T38 := Lib.hid T38
  clear b2 hB
  go_wp2_with fail
  refine (anot_any hn T38.out).mono ?_
  rintro e w39 ⟨v39, rfl, T39, b2⟩
  have hB : Below w38.heap.size w38 w39 := b2
  replace HT := Lib.hid (HT.out.on hB)
  replace HK := Lib.hid (HK.out.trans (Kx.of hB))
  replace hn := HT.out.le
  replace T1 := Lib.hid (T1.out.on hB)
  replace T2 := Lib.hid (T2.out.on hB)
  replace T3 := Lib.hid (T3.out.on hB)
  replace T34 := Lib.hid (T34.out.on hB)
  replace T35 := Lib.hid (T35.out.on hB)
  replace T36 := Lib.hid (T36.out.on hB)
  replace T37 := Lib.hid (T37.out.on hB)
  replace T38 := Lib.hid (T38.out.on hB)
  obtain ⟨f39, c39, rfl⟩ := T39.func
  replace T39 := Lib.hid T39
  clear b2 hB
  go_wp2_with fail
  refine (aboth_any hn T37.out T39.out).mono ?_
  rintro e w40 ⟨v40, rfl, T40, b2⟩
  have hB : Below w39.heap.size w39 w40 := b2
  replace HT := Lib.hid (HT.out.on hB)
  replace HK := Lib.hid (HK.out.trans (Kx.of hB))
  replace hn := HT.out.le
  replace T1 := Lib.hid (T1.out.on hB)
  replace T2 := Lib.hid (T2.out.on hB)
  replace T3 := Lib.hid (T3.out.on hB)
  replace T34 := Lib.hid (T34.out.on hB)
  replace T35 := Lib.hid (T35.out.on hB)
  replace T36 := Lib.hid (T36.out.on hB)
  replace T37 := Lib.hid (T37.out.on hB)
  replace T38 := Lib.hid (T38.out.on hB)
  replace T39 := Lib.hid (T39.out.on hB)
  obtain ⟨f40, c40, rfl⟩ := T40.func
  replace T40 := Lib.hid T40
  clear b2 hB
  have hS : ShpV nb w40 (#[.nilFunc, .nilFunc, .nilFunc, .nilFunc, (.func (.func f40) #[] c40)] : Array Value).toList { kd := some (tBoth (tRow [tIs [43], tEither (tIs [61]) (tIs [46]), tEither (tIs [43]) (tIs [46])]) (tNot (tRow [tIs [43], tIs [46], tIs [46]]))) } := ⟨_, _, _, _, _, rfl, rfl, rfl, rfl, rfl, T40.out⟩
  have hX : Hid (Tab nb b (upd (upd (upd (upd (upd (upd (upd (upd (upd (upd F 43 { kd := some (tEach (tStat)) }) 48 { kd := some (tEither (tRow [tExpr, tStat]) (tRow [tExpr, tClosed, tStat])) }) 49 { kd := some (tRow [tStat, tExpr]) }) 50 { kd := some (tRow [tExpr, tStat]) }) 51 { kd := some (tRow [tEither (tEither (tExpr) (tIs [46])) (tIs [44]), tEither (tExpr) (tIs [46]), tEither (tExpr) (tIs [46]), tStat]) }) 52 { kd := some (tRow [tEither (tLeft) (tOneVar), tExpr, tStat]) }) 56 { st := some (tName nmd rsv), kd := some (tRow [tStat]) }) 57 { kd := some (tBoth (tFirst (tExpr) (tIs [58])) (tOneDef)) }) 58 { fl := some (tFree), kd := some (tEither (tBoth (tFlag) (tEach (tStat))) (tBoth (tNot (tFlag)) (tFirst (tExpr) (tStat)))) }) 60 { kd := some (tBoth (tRow [tIs [43], tEither (tIs [61]) (tIs [46]), tEither (tIs [43]) (tIs [46])]) (tNot (tRow [tIs [43], tIs [46], tIs [46]]))) }) (w40.setCells b 300 (#[.nilFunc, .nilFunc, .nilFunc, .nilFunc, (.func (.func f40) #[] c40)] : Array Value).toList) ∧ Kx b w40 (w40.setCells b 300 (#[.nilFunc, .nilFunc, .nilFunc, .nilFunc, (.func (.func f40) #[] c40)] : Array Value).toList)) := Lib.hid (HT.out.set 60 (by omega) hS)
  replace hS := Lib.hid hS.one
  go_wp2_with (refine wpList_store_mid rfl 63 _ _ rfl b 300 #[.nilFunc, .nilFunc, .nilFunc, .nilFunc, (.func (.func f40) #[] c40)] rfl rfl (HT.out.there 60 (by omega)) (by kernel_rfl) hS.out ?_; generalize w40.setCells b 300 (#[.nilFunc, .nilFunc, .nilFunc, .nilFunc, (.func (.func f40) #[] c40)] : Array Value).toList = w41 at hX ⊢; refine Hid.out ?_)
  clear hS
  clear T34 T35 T36 T37 T38 T39 T40
  replace T1 := Lib.hid (T1.out.abv (hX.out.2.abv hb))
  replace T2 := Lib.hid (T2.out.abv (hX.out.2.abv hb))
  replace T3 := Lib.hid (T3.out.abv (hX.out.2.abv hb))
  replace HT := Lib.hid hX.out.1
  replace HK := Lib.hid (HK.out.trans hX.out.2)
  replace hn := HT.out.le
  clear hX
  refine Lib.hid ?_
  go_wp2_with fail
  refine (arow_any (nb := nb) [tIs [43]] _ _ _ (Nat.le_trans hn (b1 _).size) (new_tsts hn (vs := [(.func (.func f3) #[] c3)]) (ps := [tIs [43]]) _ ⟨T3.out, trivial⟩ (by simp))).mono ?_
  rintro e w42 ⟨v42, rfl, T42, b2⟩
  have hB : Below w41.heap.size w41 w42 := (b1 _).trans (b2.mono (b1 _).size)
  replace HT := Lib.hid (HT.out.on hB)
  replace HK := Lib.hid (HK.out.trans (Kx.of hB))
  replace hn := HT.out.le
  replace T1 := Lib.hid (T1.out.on hB)
  replace T2 := Lib.hid (T2.out.on hB)
  replace T3 := Lib.hid (T3.out.on hB)
  obtain ⟨f42, c42, rfl⟩ := T42.func
  replace T42 := Lib.hid T42
  clear b2 hB
  have hS : ShpV nb w42 (#[.nilFunc, (.func (.func 87) #[] #[]), .nilFunc, .nilFunc, (.func (.func f42) #[] c42)] : Array Value).toList { st := some (tName nmd rsv), kd := some (tRow [tIs [43]]) } := ⟨_, _, _, _, _, rfl, rfl, (tst_name HL.out _), rfl, rfl, T42.out⟩
  have hX : Hid (Tab nb b (upd (upd (upd (upd (upd (upd (upd (upd (upd (upd (upd F 43 { kd := some (tEach (tStat)) }) 48 { kd := some (tEither (tRow [tExpr, tStat]) (tRow [tExpr, tClosed, tStat])) }) 49 { kd := some (tRow [tStat, tExpr]) }) 50 { kd := some (tRow [tExpr, tStat]) }) 51 { kd := some (tRow [tEither (tEither (tExpr) (tIs [46])) (tIs [44]), tEither (tExpr) (tIs [46]), tEither (tExpr) (tIs [46]), tStat]) }) 52 { kd := some (tRow [tEither (tLeft) (tOneVar), tExpr, tStat]) }) 56 { st := some (tName nmd rsv), kd := some (tRow [tStat]) }) 57 { kd := some (tBoth (tFirst (tExpr) (tIs [58])) (tOneDef)) }) 58 { fl := some (tFree), kd := some (tEither (tBoth (tFlag) (tEach (tStat))) (tBoth (tNot (tFlag)) (tFirst (tExpr) (tStat)))) }) 60 { kd := some (tBoth (tRow [tIs [43], tEither (tIs [61]) (tIs [46]), tEither (tIs [43]) (tIs [46])]) (tNot (tRow [tIs [43], tIs [46], tIs [46]]))) }) 61 { st := some (tName nmd rsv), kd := some (tRow [tIs [43]]) }) (w42.setCells b 305 (#[.nilFunc, (.func (.func 87) #[] #[]), .nilFunc, .nilFunc, (.func (.func f42) #[] c42)] : Array Value).toList) ∧ Kx b w42 (w42.setCells b 305 (#[.nilFunc, (.func (.func 87) #[] #[]), .nilFunc, .nilFunc, (.func (.func f42) #[] c42)] : Array Value).toList)) := Lib.hid (HT.out.set 61 (by omega) hS)
  replace hS := Lib.hid hS.one
  go_wp2_with (refine wpList_store_mid rfl 63 _ _ rfl b 305 #[.nilFunc, (.func (.func 87) #[] #[]), .nilFunc, .nilFunc, (.func (.func f42) #[] c42)] rfl rfl (HT.out.there 61 (by omega)) (by kernel_rfl) hS.out ?_; generalize w42.setCells b 305 (#[.nilFunc, (.func (.func 87) #[] #[]), .nilFunc, .nilFunc, (.func (.func f42) #[] c42)] : Array Value).toList = w43 at hX ⊢; refine Hid.out ?_)
  clear hS
  clear T42
  replace T1 := Lib.hid (T1.out.abv (hX.out.2.abv hb))
  replace T2 := Lib.hid (T2.out.abv (hX.out.2.abv hb))
  replace T3 := Lib.hid (T3.out.abv (hX.out.2.abv hb))
  replace HT := Lib.hid hX.out.1
  replace HK := Lib.hid (HK.out.trans hX.out.2)
  replace hn := HT.out.le
  clear hX
  refine Lib.hid ?_
  go_wp2
  go_end0
  exact ⟨⟨_, rfl⟩, HT.out, HK.out⟩
end Go.Proofs.YtfpmhahjemdodaaGreatDoor
