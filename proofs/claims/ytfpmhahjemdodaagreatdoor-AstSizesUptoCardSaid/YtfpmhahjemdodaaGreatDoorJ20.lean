/-
  The program's shapeOperators.
-/
import Derived.Test.YtfpmhahjemdodaaGreatDoorJ18
namespace Go.Proofs.YtfpmhahjemdodaaGreatDoor
open Go.RowKit Go.Shelf
attribute [local go_sem] stFl hmf
set_option maxRecDepth 100000 in
set_option maxHeartbeats 4000000 in
theorem ashapeOperators_any {nmd rsv : ByteArray → Bool} (hL : Lx nmd rsv) {nb b : Nat} {F : Nat → Shp} (W : World) (hT : Tab nb b F W) :
    Calls Tryz.prog 31 #[.slice (some ⟨b, 0, none⟩) 63 63] W fun e w' => (∃ v, e = .returned v) ∧ Tab nb b (upd (upd (upd (upd (upd (upd (upd F 18 { op := some (tOp [[100, 101, 108, 101, 116, 101], [118, 111, 105, 100], [116, 121, 112, 101, 111, 102], [43, 43], [45, 45], [43], [45], [126], [33]]), kd := some (tBoth (tRow [tExpr]) (tEither (tNot (tOp [[43, 43], [45, 45]])) (tRow [tLeft]))) }) 19 { op := some (tOp [[43, 43], [45, 45]]), kd := some (tRow [tLeft]) }) 20 { op := some (tOp [[42], [47], [37], [43], [45], [60, 60], [62, 62], [62, 62, 62], [60], [62], [60, 61], [62, 61], [105, 110, 115, 116, 97, 110, 99, 101, 111, 102], [105, 110], [61, 61], [33, 61], [61, 61, 61], [33, 61, 61], [38], [94], [124]]), kd := some (tRow [tExpr, tExpr]) }) 21 { op := some (tOp [[38, 38], [124, 124]]), kd := some (tRow [tExpr, tExpr]) }) 22 { kd := some (tRow [tExpr, tExpr, tExpr]) }) 23 { op := some (tOp [[61], [42, 61], [47, 61], [37, 61], [43, 61], [45, 61], [60, 60, 61], [62, 62, 61], [62, 62, 62, 61], [38, 61], [94, 61], [124, 61]]), kd := some (tRow [tLeft, tExpr]) }) 24 { kd := some (tRow [tExpr, tExpr]) }) w' ∧ Kx b W w' := by
  have hn := hT.le
  have hb := hT.lt
  have HT := Lib.hid hT
  have HK := Lib.hid (Kx.refl b W)
  have HL := Lib.hid hL
  clear hT hL
  go_enter Tryz.func31, Tryz.ntmps31
  go_wp2_with fail
  refine (aop_any (nb := nb) [⟨#[43, 43]⟩, ⟨#[45, 45]⟩] _ _ _ (Nat.le_trans hn (b1 _).size) hn (by simp) (new_cells ([⟨#[43, 43]⟩, ⟨#[45, 45]⟩] : List ByteArray) (fun k => .string k) W _)).mono ?_
  rintro e w1 ⟨v1, rfl, T1, b2⟩
  have hB : Below W.heap.size W w1 := (b1 _).trans (b2.mono (b1 _).size)
  replace HT := Lib.hid (HT.out.on hB)
  replace HK := Lib.hid (HK.out.trans (Kx.of hB))
  replace hn := HT.out.le
  obtain ⟨f1, c1, rfl⟩ := T1.func
  replace T1 := Lib.hid T1
  clear b2 hB
  rw [show ([⟨#[43, 43]⟩, ⟨#[45, 45]⟩] : List ByteArray).map (·.toList) = [[43, 43], [45, 45]] by simp [ByteArray.toList_eq]] at T1
  go_wp2_with fail
  refine (anot_any hn T1.out).mono ?_
  rintro e w2 ⟨v2, rfl, T2, b2⟩
  have hB : Below w1.heap.size w1 w2 := b2
  replace HT := Lib.hid (HT.out.on hB)
  replace HK := Lib.hid (HK.out.trans (Kx.of hB))
  replace hn := HT.out.le
  replace T1 := Lib.hid (T1.out.on hB)
  obtain ⟨f2, c2, rfl⟩ := T2.func
  replace T2 := Lib.hid T2
  clear b2 hB
  go_wp2_with fail
  refine (arow_any (nb := nb) [tLeft] _ _ _ (Nat.le_trans hn (b1 _).size) (new_tsts hn (vs := [(.func (.func 101) #[] #[])]) (ps := [tLeft]) _ ⟨(tst_left _), trivial⟩ (by simp))).mono ?_
  rintro e w3 ⟨v3, rfl, T3, b2⟩
  have hB : Below w2.heap.size w2 w3 := (b1 _).trans (b2.mono (b1 _).size)
  replace HT := Lib.hid (HT.out.on hB)
  replace HK := Lib.hid (HK.out.trans (Kx.of hB))
  replace hn := HT.out.le
  replace T1 := Lib.hid (T1.out.on hB)
  replace T2 := Lib.hid (T2.out.on hB)
  obtain ⟨f3, c3, rfl⟩ := T3.func
  replace T3 := Lib.hid T3
  clear b2 hB
  go_wp2_with fail
  refine (aeither_any hn T2.out T3.out).mono ?_
  rintro e w4 ⟨v4, rfl, T4, b2⟩
  have hB : Below w3.heap.size w3 w4 := b2
  replace HT := Lib.hid (HT.out.on hB)
  replace HK := Lib.hid (HK.out.trans (Kx.of hB))
  replace hn := HT.out.le
  replace T1 := Lib.hid (T1.out.on hB)
  replace T2 := Lib.hid (T2.out.on hB)
  replace T3 := Lib.hid (T3.out.on hB)
  obtain ⟨f4, c4, rfl⟩ := T4.func
  replace T4 := Lib.hid T4
  clear b2 hB
  go_wp2_with fail
  refine (arow_any (nb := nb) [tExpr, tExpr] _ _ _ (Nat.le_trans hn (b1 _).size) (new_tsts hn (vs := [(.func (.func 86) #[] #[]), (.func (.func 86) #[] #[])]) (ps := [tExpr, tExpr]) _ ⟨(tst_expr _), (tst_expr _), trivial⟩ (by simp))).mono ?_
  rintro e w5 ⟨v5, rfl, T5, b2⟩
  have hB : Below w4.heap.size w4 w5 := (b1 _).trans (b2.mono (b1 _).size)
  replace HT := Lib.hid (HT.out.on hB)
  replace HK := Lib.hid (HK.out.trans (Kx.of hB))
  replace hn := HT.out.le
  replace T1 := Lib.hid (T1.out.on hB)
  replace T2 := Lib.hid (T2.out.on hB)
  replace T3 := Lib.hid (T3.out.on hB)
  replace T4 := Lib.hid (T4.out.on hB)
  obtain ⟨f5, c5, rfl⟩ := T5.func
  replace T5 := Lib.hid T5
  clear b2 hB
  go_wp2_with fail
  refine (aop_any (nb := nb) [⟨#[100, 101, 108, 101, 116, 101]⟩, ⟨#[118, 111, 105, 100]⟩, ⟨#[116, 121, 112, 101, 111, 102]⟩, ⟨#[43, 43]⟩, ⟨#[45, 45]⟩, ⟨#[43]⟩, ⟨#[45]⟩, ⟨#[126]⟩, ⟨#[33]⟩] _ _ _ (Nat.le_trans hn (b1 _).size) hn (by simp) (new_cells ([⟨#[100, 101, 108, 101, 116, 101]⟩, ⟨#[118, 111, 105, 100]⟩, ⟨#[116, 121, 112, 101, 111, 102]⟩, ⟨#[43, 43]⟩, ⟨#[45, 45]⟩, ⟨#[43]⟩, ⟨#[45]⟩, ⟨#[126]⟩, ⟨#[33]⟩] : List ByteArray) (fun k => .string k) w5 _)).mono ?_
  rintro e w6 ⟨v6, rfl, T6, b2⟩
  have hB : Below w5.heap.size w5 w6 := (b1 _).trans (b2.mono (b1 _).size)
  replace HT := Lib.hid (HT.out.on hB)
  replace HK := Lib.hid (HK.out.trans (Kx.of hB))
  replace hn := HT.out.le
  replace T1 := Lib.hid (T1.out.on hB)
  replace T2 := Lib.hid (T2.out.on hB)
  replace T3 := Lib.hid (T3.out.on hB)
  replace T4 := Lib.hid (T4.out.on hB)
  replace T5 := Lib.hid (T5.out.on hB)
  obtain ⟨f6, c6, rfl⟩ := T6.func
  replace T6 := Lib.hid T6
  clear b2 hB
  rw [show ([⟨#[100, 101, 108, 101, 116, 101]⟩, ⟨#[118, 111, 105, 100]⟩, ⟨#[116, 121, 112, 101, 111, 102]⟩, ⟨#[43, 43]⟩, ⟨#[45, 45]⟩, ⟨#[43]⟩, ⟨#[45]⟩, ⟨#[126]⟩, ⟨#[33]⟩] : List ByteArray).map (·.toList) = [[100, 101, 108, 101, 116, 101], [118, 111, 105, 100], [116, 121, 112, 101, 111, 102], [43, 43], [45, 45], [43], [45], [126], [33]] by simp [ByteArray.toList_eq]] at T6
  go_wp2_with fail
  refine (arow_any (nb := nb) [tExpr] _ _ _ (Nat.le_trans hn (b1 _).size) (new_tsts hn (vs := [(.func (.func 86) #[] #[])]) (ps := [tExpr]) _ ⟨(tst_expr _), trivial⟩ (by simp))).mono ?_
  rintro e w7 ⟨v7, rfl, T7, b2⟩
  have hB : Below w6.heap.size w6 w7 := (b1 _).trans (b2.mono (b1 _).size)
  replace HT := Lib.hid (HT.out.on hB)
  replace HK := Lib.hid (HK.out.trans (Kx.of hB))
  replace hn := HT.out.le
  replace T1 := Lib.hid (T1.out.on hB)
  replace T2 := Lib.hid (T2.out.on hB)
  replace T3 := Lib.hid (T3.out.on hB)
  replace T4 := Lib.hid (T4.out.on hB)
  replace T5 := Lib.hid (T5.out.on hB)
  replace T6 := Lib.hid (T6.out.on hB)
  obtain ⟨f7, c7, rfl⟩ := T7.func
  replace T7 := Lib.hid T7
  clear b2 hB
  go_wp2_with fail
  refine (aboth_any hn T7.out T4.out).mono ?_
  rintro e w8 ⟨v8, rfl, T8, b2⟩
  have hB : Below w7.heap.size w7 w8 := b2
  replace HT := Lib.hid (HT.out.on hB)
  replace HK := Lib.hid (HK.out.trans (Kx.of hB))
  replace hn := HT.out.le
  replace T1 := Lib.hid (T1.out.on hB)
  replace T2 := Lib.hid (T2.out.on hB)
  replace T3 := Lib.hid (T3.out.on hB)
  replace T4 := Lib.hid (T4.out.on hB)
  replace T5 := Lib.hid (T5.out.on hB)
  replace T6 := Lib.hid (T6.out.on hB)
  replace T7 := Lib.hid (T7.out.on hB)
  obtain ⟨f8, c8, rfl⟩ := T8.func
  replace T8 := Lib.hid T8
  clear b2 hB
  have hS : ShpV nb w8 (#[(.func (.func f6) #[] c6), .nilFunc, .nilFunc, .nilFunc, (.func (.func f8) #[] c8)] : Array Value).toList { op := some (tOp [[100, 101, 108, 101, 116, 101], [118, 111, 105, 100], [116, 121, 112, 101, 111, 102], [43, 43], [45, 45], [43], [45], [126], [33]]), kd := some (tBoth (tRow [tExpr]) (tEither (tNot (tOp [[43, 43], [45, 45]])) (tRow [tLeft]))) } := ⟨_, _, _, _, _, rfl, T6.out, rfl, rfl, rfl, T8.out⟩
  have hX : Hid (Tab nb b (upd F 18 { op := some (tOp [[100, 101, 108, 101, 116, 101], [118, 111, 105, 100], [116, 121, 112, 101, 111, 102], [43, 43], [45, 45], [43], [45], [126], [33]]), kd := some (tBoth (tRow [tExpr]) (tEither (tNot (tOp [[43, 43], [45, 45]])) (tRow [tLeft]))) }) (w8.setCells b 90 (#[(.func (.func f6) #[] c6), .nilFunc, .nilFunc, .nilFunc, (.func (.func f8) #[] c8)] : Array Value).toList) ∧ Kx b w8 (w8.setCells b 90 (#[(.func (.func f6) #[] c6), .nilFunc, .nilFunc, .nilFunc, (.func (.func f8) #[] c8)] : Array Value).toList)) := Lib.hid (HT.out.set 18 (by omega) hS)
  replace hS := Lib.hid hS.one
  go_wp2_with (refine wpList_store_mid rfl 63 _ _ rfl b 90 #[(.func (.func f6) #[] c6), .nilFunc, .nilFunc, .nilFunc, (.func (.func f8) #[] c8)] rfl rfl (HT.out.there 18 (by omega)) (by kernel_rfl) hS.out ?_; generalize w8.setCells b 90 (#[(.func (.func f6) #[] c6), .nilFunc, .nilFunc, .nilFunc, (.func (.func f8) #[] c8)] : Array Value).toList = w9 at hX ⊢; refine Hid.out ?_)
  clear hS
  clear T1 T2 T3 T6 T7 T8
  replace T4 := Lib.hid (T4.out.abv (hX.out.2.abv hb))
  replace T5 := Lib.hid (T5.out.abv (hX.out.2.abv hb))
  replace HT := Lib.hid hX.out.1
  replace HK := Lib.hid (HK.out.trans hX.out.2)
  replace hn := HT.out.le
  clear hX
  refine Lib.hid ?_
  go_wp2_with fail
  refine (aop_any (nb := nb) [⟨#[43, 43]⟩, ⟨#[45, 45]⟩] _ _ _ (Nat.le_trans hn (b1 _).size) hn (by simp) (new_cells ([⟨#[43, 43]⟩, ⟨#[45, 45]⟩] : List ByteArray) (fun k => .string k) w9 _)).mono ?_
  rintro e w10 ⟨v10, rfl, T10, b2⟩
  have hB : Below w9.heap.size w9 w10 := (b1 _).trans (b2.mono (b1 _).size)
  replace HT := Lib.hid (HT.out.on hB)
  replace HK := Lib.hid (HK.out.trans (Kx.of hB))
  replace hn := HT.out.le
  replace T4 := Lib.hid (T4.out.on hB)
  replace T5 := Lib.hid (T5.out.on hB)
  obtain ⟨f10, c10, rfl⟩ := T10.func
  replace T10 := Lib.hid T10
  clear b2 hB
  rw [show ([⟨#[43, 43]⟩, ⟨#[45, 45]⟩] : List ByteArray).map (·.toList) = [[43, 43], [45, 45]] by simp [ByteArray.toList_eq]] at T10
  go_wp2_with fail
  refine (arow_any (nb := nb) [tLeft] _ _ _ (Nat.le_trans hn (b1 _).size) (new_tsts hn (vs := [(.func (.func 101) #[] #[])]) (ps := [tLeft]) _ ⟨(tst_left _), trivial⟩ (by simp))).mono ?_
  rintro e w11 ⟨v11, rfl, T11, b2⟩
  have hB : Below w10.heap.size w10 w11 := (b1 _).trans (b2.mono (b1 _).size)
  replace HT := Lib.hid (HT.out.on hB)
  replace HK := Lib.hid (HK.out.trans (Kx.of hB))
  replace hn := HT.out.le
  replace T4 := Lib.hid (T4.out.on hB)
  replace T5 := Lib.hid (T5.out.on hB)
  replace T10 := Lib.hid (T10.out.on hB)
  obtain ⟨f11, c11, rfl⟩ := T11.func
  replace T11 := Lib.hid T11
  clear b2 hB
  have hS : ShpV nb w11 (#[(.func (.func f10) #[] c10), .nilFunc, .nilFunc, .nilFunc, (.func (.func f11) #[] c11)] : Array Value).toList { op := some (tOp [[43, 43], [45, 45]]), kd := some (tRow [tLeft]) } := ⟨_, _, _, _, _, rfl, T10.out, rfl, rfl, rfl, T11.out⟩
  have hX : Hid (Tab nb b (upd (upd F 18 { op := some (tOp [[100, 101, 108, 101, 116, 101], [118, 111, 105, 100], [116, 121, 112, 101, 111, 102], [43, 43], [45, 45], [43], [45], [126], [33]]), kd := some (tBoth (tRow [tExpr]) (tEither (tNot (tOp [[43, 43], [45, 45]])) (tRow [tLeft]))) }) 19 { op := some (tOp [[43, 43], [45, 45]]), kd := some (tRow [tLeft]) }) (w11.setCells b 95 (#[(.func (.func f10) #[] c10), .nilFunc, .nilFunc, .nilFunc, (.func (.func f11) #[] c11)] : Array Value).toList) ∧ Kx b w11 (w11.setCells b 95 (#[(.func (.func f10) #[] c10), .nilFunc, .nilFunc, .nilFunc, (.func (.func f11) #[] c11)] : Array Value).toList)) := Lib.hid (HT.out.set 19 (by omega) hS)
  replace hS := Lib.hid hS.one
  go_wp2_with (refine wpList_store_mid rfl 63 _ _ rfl b 95 #[(.func (.func f10) #[] c10), .nilFunc, .nilFunc, .nilFunc, (.func (.func f11) #[] c11)] rfl rfl (HT.out.there 19 (by omega)) (by kernel_rfl) hS.out ?_; generalize w11.setCells b 95 (#[(.func (.func f10) #[] c10), .nilFunc, .nilFunc, .nilFunc, (.func (.func f11) #[] c11)] : Array Value).toList = w12 at hX ⊢; refine Hid.out ?_)
  clear hS
  clear T10 T11
  replace T4 := Lib.hid (T4.out.abv (hX.out.2.abv hb))
  replace T5 := Lib.hid (T5.out.abv (hX.out.2.abv hb))
  replace HT := Lib.hid hX.out.1
  replace HK := Lib.hid (HK.out.trans hX.out.2)
  replace hn := HT.out.le
  clear hX
  refine Lib.hid ?_
  go_wp2_with fail
  refine (aop_any (nb := nb) [⟨#[42]⟩, ⟨#[47]⟩, ⟨#[37]⟩, ⟨#[43]⟩, ⟨#[45]⟩, ⟨#[60, 60]⟩, ⟨#[62, 62]⟩, ⟨#[62, 62, 62]⟩, ⟨#[60]⟩, ⟨#[62]⟩, ⟨#[60, 61]⟩, ⟨#[62, 61]⟩, ⟨#[105, 110, 115, 116, 97, 110, 99, 101, 111, 102]⟩, ⟨#[105, 110]⟩, ⟨#[61, 61]⟩, ⟨#[33, 61]⟩, ⟨#[61, 61, 61]⟩, ⟨#[33, 61, 61]⟩, ⟨#[38]⟩, ⟨#[94]⟩, ⟨#[124]⟩] _ _ _ (Nat.le_trans hn (b1 _).size) hn (by simp) (new_cells ([⟨#[42]⟩, ⟨#[47]⟩, ⟨#[37]⟩, ⟨#[43]⟩, ⟨#[45]⟩, ⟨#[60, 60]⟩, ⟨#[62, 62]⟩, ⟨#[62, 62, 62]⟩, ⟨#[60]⟩, ⟨#[62]⟩, ⟨#[60, 61]⟩, ⟨#[62, 61]⟩, ⟨#[105, 110, 115, 116, 97, 110, 99, 101, 111, 102]⟩, ⟨#[105, 110]⟩, ⟨#[61, 61]⟩, ⟨#[33, 61]⟩, ⟨#[61, 61, 61]⟩, ⟨#[33, 61, 61]⟩, ⟨#[38]⟩, ⟨#[94]⟩, ⟨#[124]⟩] : List ByteArray) (fun k => .string k) w12 _)).mono ?_
  rintro e w13 ⟨v13, rfl, T13, b2⟩
  have hB : Below w12.heap.size w12 w13 := (b1 _).trans (b2.mono (b1 _).size)
  replace HT := Lib.hid (HT.out.on hB)
  replace HK := Lib.hid (HK.out.trans (Kx.of hB))
  replace hn := HT.out.le
  replace T4 := Lib.hid (T4.out.on hB)
  replace T5 := Lib.hid (T5.out.on hB)
  obtain ⟨f13, c13, rfl⟩ := T13.func
  replace T13 := Lib.hid T13
  clear b2 hB
  rw [show ([⟨#[42]⟩, ⟨#[47]⟩, ⟨#[37]⟩, ⟨#[43]⟩, ⟨#[45]⟩, ⟨#[60, 60]⟩, ⟨#[62, 62]⟩, ⟨#[62, 62, 62]⟩, ⟨#[60]⟩, ⟨#[62]⟩, ⟨#[60, 61]⟩, ⟨#[62, 61]⟩, ⟨#[105, 110, 115, 116, 97, 110, 99, 101, 111, 102]⟩, ⟨#[105, 110]⟩, ⟨#[61, 61]⟩, ⟨#[33, 61]⟩, ⟨#[61, 61, 61]⟩, ⟨#[33, 61, 61]⟩, ⟨#[38]⟩, ⟨#[94]⟩, ⟨#[124]⟩] : List ByteArray).map (·.toList) = [[42], [47], [37], [43], [45], [60, 60], [62, 62], [62, 62, 62], [60], [62], [60, 61], [62, 61], [105, 110, 115, 116, 97, 110, 99, 101, 111, 102], [105, 110], [61, 61], [33, 61], [61, 61, 61], [33, 61, 61], [38], [94], [124]] by simp [ByteArray.toList_eq]] at T13
  have hS : ShpV nb w13 (#[(.func (.func f13) #[] c13), .nilFunc, .nilFunc, .nilFunc, (.func (.func f5) #[] c5)] : Array Value).toList { op := some (tOp [[42], [47], [37], [43], [45], [60, 60], [62, 62], [62, 62, 62], [60], [62], [60, 61], [62, 61], [105, 110, 115, 116, 97, 110, 99, 101, 111, 102], [105, 110], [61, 61], [33, 61], [61, 61, 61], [33, 61, 61], [38], [94], [124]]), kd := some (tRow [tExpr, tExpr]) } := ⟨_, _, _, _, _, rfl, T13.out, rfl, rfl, rfl, T5.out⟩
  have hX : Hid (Tab nb b (upd (upd (upd F 18 { op := some (tOp [[100, 101, 108, 101, 116, 101], [118, 111, 105, 100], [116, 121, 112, 101, 111, 102], [43, 43], [45, 45], [43], [45], [126], [33]]), kd := some (tBoth (tRow [tExpr]) (tEither (tNot (tOp [[43, 43], [45, 45]])) (tRow [tLeft]))) }) 19 { op := some (tOp [[43, 43], [45, 45]]), kd := some (tRow [tLeft]) }) 20 { op := some (tOp [[42], [47], [37], [43], [45], [60, 60], [62, 62], [62, 62, 62], [60], [62], [60, 61], [62, 61], [105, 110, 115, 116, 97, 110, 99, 101, 111, 102], [105, 110], [61, 61], [33, 61], [61, 61, 61], [33, 61, 61], [38], [94], [124]]), kd := some (tRow [tExpr, tExpr]) }) (w13.setCells b 100 (#[(.func (.func f13) #[] c13), .nilFunc, .nilFunc, .nilFunc, (.func (.func f5) #[] c5)] : Array Value).toList) ∧ Kx b w13 (w13.setCells b 100 (#[(.func (.func f13) #[] c13), .nilFunc, .nilFunc, .nilFunc, (.func (.func f5) #[] c5)] : Array Value).toList)) := Lib.hid (HT.out.set 20 (by omega) hS)
  replace hS := Lib.hid hS.one
  go_wp2_with (refine wpList_store_mid rfl 63 _ _ rfl b 100 #[(.func (.func f13) #[] c13), .nilFunc, .nilFunc, .nilFunc, (.func (.func f5) #[] c5)] rfl rfl (HT.out.there 20 (by omega)) (by kernel_rfl) hS.out ?_; generalize w13.setCells b 100 (#[(.func (.func f13) #[] c13), .nilFunc, .nilFunc, .nilFunc, (.func (.func f5) #[] c5)] : Array Value).toList = w14 at hX ⊢; refine Hid.out ?_)
  clear hS
  clear T13
  replace T4 := Lib.hid (T4.out.abv (hX.out.2.abv hb))
  replace T5 := Lib.hid (T5.out.abv (hX.out.2.abv hb))
  replace HT := Lib.hid hX.out.1
  replace HK := Lib.hid (HK.out.trans hX.out.2)
  replace hn := HT.out.le
  clear hX
  refine Lib.hid ?_
  go_wp2_with fail
  refine (aop_any (nb := nb) [⟨#[38, 38]⟩, ⟨#[124, 124]⟩] _ _ _ (Nat.le_trans hn (b1 _).size) hn (by simp) (new_cells ([⟨#[38, 38]⟩, ⟨#[124, 124]⟩] : List ByteArray) (fun k => .string k) w14 _)).mono ?_
  rintro e w15 ⟨v15, rfl, T15, b2⟩
  have hB : Below w14.heap.size w14 w15 := (b1 _).trans (b2.mono (b1 _).size)
  replace HT := Lib.hid (HT.out.on hB)
  replace HK := Lib.hid (HK.out.trans (Kx.of hB))
  replace hn := HT.out.le
  replace T4 := Lib.hid (T4.out.on hB)
  replace T5 := Lib.hid (T5.out.on hB)
  obtain ⟨f15, c15, rfl⟩ := T15.func
  replace T15 := Lib.hid T15
  clear b2 hB
  rw [show ([⟨#[38, 38]⟩, ⟨#[124, 124]⟩] : List ByteArray).map (·.toList) = [[38, 38], [124, 124]] by simp [ByteArray.toList_eq]] at T15
  have hS : ShpV nb w15 (#[(.func (.func f15) #[] c15), .nilFunc, .nilFunc, .nilFunc, (.func (.func f5) #[] c5)] : Array Value).toList { op := some (tOp [[38, 38], [124, 124]]), kd := some (tRow [tExpr, tExpr]) } := ⟨_, _, _, _, _, rfl, T15.out, rfl, rfl, rfl, T5.out⟩
  have hX : Hid (Tab nb b (upd (upd (upd (upd F 18 { op := some (tOp [[100, 101, 108, 101, 116, 101], [118, 111, 105, 100], [116, 121, 112, 101, 111, 102], [43, 43], [45, 45], [43], [45], [126], [33]]), kd := some (tBoth (tRow [tExpr]) (tEither (tNot (tOp [[43, 43], [45, 45]])) (tRow [tLeft]))) }) 19 { op := some (tOp [[43, 43], [45, 45]]), kd := some (tRow [tLeft]) }) 20 { op := some (tOp [[42], [47], [37], [43], [45], [60, 60], [62, 62], [62, 62, 62], [60], [62], [60, 61], [62, 61], [105, 110, 115, 116, 97, 110, 99, 101, 111, 102], [105, 110], [61, 61], [33, 61], [61, 61, 61], [33, 61, 61], [38], [94], [124]]), kd := some (tRow [tExpr, tExpr]) }) 21 { op := some (tOp [[38, 38], [124, 124]]), kd := some (tRow [tExpr, tExpr]) }) (w15.setCells b 105 (#[(.func (.func f15) #[] c15), .nilFunc, .nilFunc, .nilFunc, (.func (.func f5) #[] c5)] : Array Value).toList) ∧ Kx b w15 (w15.setCells b 105 (#[(.func (.func f15) #[] c15), .nilFunc, .nilFunc, .nilFunc, (.func (.func f5) #[] c5)] : Array Value).toList)) := Lib.hid (HT.out.set 21 (by omega) hS)
  replace hS := Lib.hid hS.one
  go_wp2_with (refine wpList_store_mid rfl 63 _ _ rfl b 105 #[(.func (.func f15) #[] c15), .nilFunc, .nilFunc, .nilFunc, (.func (.func f5) #[] c5)] rfl rfl (HT.out.there 21 (by omega)) (by kernel_rfl) hS.out ?_; generalize w15.setCells b 105 (#[(.func (.func f15) #[] c15), .nilFunc, .nilFunc, .nilFunc, (.func (.func f5) #[] c5)] : Array Value).toList = w16 at hX ⊢; refine Hid.out ?_)
  clear hS
  clear T15
  replace T4 := Lib.hid (T4.out.abv (hX.out.2.abv hb))
  replace T5 := Lib.hid (T5.out.abv (hX.out.2.abv hb))
  replace HT := Lib.hid hX.out.1
  replace HK := Lib.hid (HK.out.trans hX.out.2)
  replace hn := HT.out.le
  clear hX
  refine Lib.hid ?_
  go_wp2_with fail
  refine (arow_any (nb := nb) [tExpr, tExpr, tExpr] _ _ _ (Nat.le_trans hn (b1 _).size) (new_tsts hn (vs := [(.func (.func 86) #[] #[]), (.func (.func 86) #[] #[]), (.func (.func 86) #[] #[])]) (ps := [tExpr, tExpr, tExpr]) _ ⟨(tst_expr _), (tst_expr _), (tst_expr _), trivial⟩ (by simp))).mono ?_
  rintro e w17 ⟨v17, rfl, T17, b2⟩
  have hB : Below w16.heap.size w16 w17 := (b1 _).trans (b2.mono (b1 _).size)
  replace HT := Lib.hid (HT.out.on hB)
  replace HK := Lib.hid (HK.out.trans (Kx.of hB))
  replace hn := HT.out.le
  replace T4 := Lib.hid (T4.out.on hB)
  replace T5 := Lib.hid (T5.out.on hB)
  obtain ⟨f17, c17, rfl⟩ := T17.func
  replace T17 := Lib.hid T17
  clear b2 hB
  have hS : ShpV nb w17 (#[.nilFunc, .nilFunc, .nilFunc, .nilFunc, (.func (.func f17) #[] c17)] : Array Value).toList { kd := some (tRow [tExpr, tExpr, tExpr]) } := ⟨_, _, _, _, _, rfl, rfl, rfl, rfl, rfl, T17.out⟩
  have hX : Hid (Tab nb b (upd (upd (upd (upd (upd F 18 { op := some (tOp [[100, 101, 108, 101, 116, 101], [118, 111, 105, 100], [116, 121, 112, 101, 111, 102], [43, 43], [45, 45], [43], [45], [126], [33]]), kd := some (tBoth (tRow [tExpr]) (tEither (tNot (tOp [[43, 43], [45, 45]])) (tRow [tLeft]))) }) 19 { op := some (tOp [[43, 43], [45, 45]]), kd := some (tRow [tLeft]) }) 20 { op := some (tOp [[42], [47], [37], [43], [45], [60, 60], [62, 62], [62, 62, 62], [60], [62], [60, 61], [62, 61], [105, 110, 115, 116, 97, 110, 99, 101, 111, 102], [105, 110], [61, 61], [33, 61], [61, 61, 61], [33, 61, 61], [38], [94], [124]]), kd := some (tRow [tExpr, tExpr]) }) 21 { op := some (tOp [[38, 38], [124, 124]]), kd := some (tRow [tExpr, tExpr]) }) 22 { kd := some (tRow [tExpr, tExpr, tExpr]) }) (w17.setCells b 110 (#[.nilFunc, .nilFunc, .nilFunc, .nilFunc, (.func (.func f17) #[] c17)] : Array Value).toList) ∧ Kx b w17 (w17.setCells b 110 (#[.nilFunc, .nilFunc, .nilFunc, .nilFunc, (.func (.func f17) #[] c17)] : Array Value).toList)) := Lib.hid (HT.out.set 22 (by omega) hS)
  replace hS := Lib.hid hS.one
  go_wp2_with (refine wpList_store_mid rfl 63 _ _ rfl b 110 #[.nilFunc, .nilFunc, .nilFunc, .nilFunc, (.func (.func f17) #[] c17)] rfl rfl (HT.out.there 22 (by omega)) (by kernel_rfl) hS.out ?_; generalize w17.setCells b 110 (#[.nilFunc, .nilFunc, .nilFunc, .nilFunc, (.func (.func f17) #[] c17)] : Array Value).toList = w18 at hX ⊢; refine Hid.out ?_)
  clear hS
  clear T17
  replace T4 := Lib.hid (T4.out.abv (hX.out.2.abv hb))
  replace T5 := Lib.hid (T5.out.abv (hX.out.2.abv hb))
  replace HT := Lib.hid hX.out.1
  replace HK := Lib.hid (HK.out.trans hX.out.2)
  replace hn := HT.out.le
  clear hX
  refine Lib.hid ?_
  go_wp2_with fail
  refine (aop_any (nb := nb) [⟨#[61]⟩, ⟨#[42, 61]⟩, ⟨#[47, 61]⟩, ⟨#[37, 61]⟩, ⟨#[43, 61]⟩, ⟨#[45, 61]⟩, ⟨#[60, 60, 61]⟩, ⟨#[62, 62, 61]⟩, ⟨#[62, 62, 62, 61]⟩, ⟨#[38, 61]⟩, ⟨#[94, 61]⟩, ⟨#[124, 61]⟩] _ _ _ (Nat.le_trans hn (b1 _).size) hn (by simp) (new_cells ([⟨#[61]⟩, ⟨#[42, 61]⟩, ⟨#[47, 61]⟩, ⟨#[37, 61]⟩, ⟨#[43, 61]⟩, ⟨#[45, 61]⟩, ⟨#[60, 60, 61]⟩, ⟨#[62, 62, 61]⟩, ⟨#[62, 62, 62, 61]⟩, ⟨#[38, 61]⟩, ⟨#[94, 61]⟩, ⟨#[124, 61]⟩] : List ByteArray) (fun k => .string k) w18 _)).mono ?_
  rintro e w19 ⟨v19, rfl, T19, b2⟩
  have hB : Below w18.heap.size w18 w19 := (b1 _).trans (b2.mono (b1 _).size)
  replace HT := Lib.hid (HT.out.on hB)
  replace HK := Lib.hid (HK.out.trans (Kx.of hB))
  replace hn := HT.out.le
  replace T4 := Lib.hid (T4.out.on hB)
  replace T5 := Lib.hid (T5.out.on hB)
  obtain ⟨f19, c19, rfl⟩ := T19.func
  replace T19 := Lib.hid T19
  clear b2 hB
  rw [show ([⟨#[61]⟩, ⟨#[42, 61]⟩, ⟨#[47, 61]⟩, ⟨#[37, 61]⟩, ⟨#[43, 61]⟩, ⟨#[45, 61]⟩, ⟨#[60, 60, 61]⟩, ⟨#[62, 62, 61]⟩, ⟨#[62, 62, 62, 61]⟩, ⟨#[38, 61]⟩, ⟨#[94, 61]⟩, ⟨#[124, 61]⟩] : List ByteArray).map (·.toList) = [[61], [42, 61], [47, 61], [37, 61], [43, 61], [45, 61], [60, 60, 61], [62, 62, 61], [62, 62, 62, 61], [38, 61], [94, 61], [124, 61]] by simp [ByteArray.toList_eq]] at T19
  go_wp2_with fail
  refine (arow_any (nb := nb) [tLeft, tExpr] _ _ _ (Nat.le_trans hn (b1 _).size) (new_tsts hn (vs := [(.func (.func 101) #[] #[]), (.func (.func 86) #[] #[])]) (ps := [tLeft, tExpr]) _ ⟨(tst_left _), (tst_expr _), trivial⟩ (by simp))).mono ?_
  rintro e w20 ⟨v20, rfl, T20, b2⟩
  have hB : Below w19.heap.size w19 w20 := (b1 _).trans (b2.mono (b1 _).size)
  replace HT := Lib.hid (HT.out.on hB)
  replace HK := Lib.hid (HK.out.trans (Kx.of hB))
  replace hn := HT.out.le
  replace T4 := Lib.hid (T4.out.on hB)
  replace T5 := Lib.hid (T5.out.on hB)
  replace T19 := Lib.hid (T19.out.on hB)
  obtain ⟨f20, c20, rfl⟩ := T20.func
  replace T20 := Lib.hid T20
  clear b2 hB
  have hS : ShpV nb w20 (#[(.func (.func f19) #[] c19), .nilFunc, .nilFunc, .nilFunc, (.func (.func f20) #[] c20)] : Array Value).toList { op := some (tOp [[61], [42, 61], [47, 61], [37, 61], [43, 61], [45, 61], [60, 60, 61], [62, 62, 61], [62, 62, 62, 61], [38, 61], [94, 61], [124, 61]]), kd := some (tRow [tLeft, tExpr]) } := ⟨_, _, _, _, _, rfl, T19.out, rfl, rfl, rfl, T20.out⟩
  have hX : Hid (Tab nb b (upd (upd (upd (upd (upd (upd F 18 { op := some (tOp [[100, 101, 108, 101, 116, 101], [118, 111, 105, 100], [116, 121, 112, 101, 111, 102], [43, 43], [45, 45], [43], [45], [126], [33]]), kd := some (tBoth (tRow [tExpr]) (tEither (tNot (tOp [[43, 43], [45, 45]])) (tRow [tLeft]))) }) 19 { op := some (tOp [[43, 43], [45, 45]]), kd := some (tRow [tLeft]) }) 20 { op := some (tOp [[42], [47], [37], [43], [45], [60, 60], [62, 62], [62, 62, 62], [60], [62], [60, 61], [62, 61], [105, 110, 115, 116, 97, 110, 99, 101, 111, 102], [105, 110], [61, 61], [33, 61], [61, 61, 61], [33, 61, 61], [38], [94], [124]]), kd := some (tRow [tExpr, tExpr]) }) 21 { op := some (tOp [[38, 38], [124, 124]]), kd := some (tRow [tExpr, tExpr]) }) 22 { kd := some (tRow [tExpr, tExpr, tExpr]) }) 23 { op := some (tOp [[61], [42, 61], [47, 61], [37, 61], [43, 61], [45, 61], [60, 60, 61], [62, 62, 61], [62, 62, 62, 61], [38, 61], [94, 61], [124, 61]]), kd := some (tRow [tLeft, tExpr]) }) (w20.setCells b 115 (#[(.func (.func f19) #[] c19), .nilFunc, .nilFunc, .nilFunc, (.func (.func f20) #[] c20)] : Array Value).toList) ∧ Kx b w20 (w20.setCells b 115 (#[(.func (.func f19) #[] c19), .nilFunc, .nilFunc, .nilFunc, (.func (.func f20) #[] c20)] : Array Value).toList)) := Lib.hid (HT.out.set 23 (by omega) hS)
  replace hS := Lib.hid hS.one
  go_wp2_with (refine wpList_store_mid rfl 63 _ _ rfl b 115 #[(.func (.func f19) #[] c19), .nilFunc, .nilFunc, .nilFunc, (.func (.func f20) #[] c20)] rfl rfl (HT.out.there 23 (by omega)) (by kernel_rfl) hS.out ?_; generalize w20.setCells b 115 (#[(.func (.func f19) #[] c19), .nilFunc, .nilFunc, .nilFunc, (.func (.func f20) #[] c20)] : Array Value).toList = w21 at hX ⊢; refine Hid.out ?_)
  clear hS
  clear T19 T20
  replace T4 := Lib.hid (T4.out.abv (hX.out.2.abv hb))
  replace T5 := Lib.hid (T5.out.abv (hX.out.2.abv hb))
  replace HT := Lib.hid hX.out.1
  replace HK := Lib.hid (HK.out.trans hX.out.2)
  replace hn := HT.out.le
  clear hX
  refine Lib.hid ?_
  have hS : ShpV nb w21 (#[.nilFunc, .nilFunc, .nilFunc, .nilFunc, (.func (.func f5) #[] c5)] : Array Value).toList { kd := some (tRow [tExpr, tExpr]) } := ⟨_, _, _, _, _, rfl, rfl, rfl, rfl, rfl, T5.out⟩
  have hX : Hid (Tab nb b (upd (upd (upd (upd (upd (upd (upd F 18 { op := some (tOp [[100, 101, 108, 101, 116, 101], [118, 111, 105, 100], [116, 121, 112, 101, 111, 102], [43, 43], [45, 45], [43], [45], [126], [33]]), kd := some (tBoth (tRow [tExpr]) (tEither (tNot (tOp [[43, 43], [45, 45]])) (tRow [tLeft]))) }) 19 { op := some (tOp [[43, 43], [45, 45]]), kd := some (tRow [tLeft]) }) 20 { op := some (tOp [[42], [47], [37], [43], [45], [60, 60], [62, 62], [62, 62, 62], [60], [62], [60, 61], [62, 61], [105, 110, 115, 116, 97, 110, 99, 101, 111, 102], [105, 110], [61, 61], [33, 61], [61, 61, 61], [33, 61, 61], [38], [94], [124]]), kd := some (tRow [tExpr, tExpr]) }) 21 { op := some (tOp [[38, 38], [124, 124]]), kd := some (tRow [tExpr, tExpr]) }) 22 { kd := some (tRow [tExpr, tExpr, tExpr]) }) 23 { op := some (tOp [[61], [42, 61], [47, 61], [37, 61], [43, 61], [45, 61], [60, 60, 61], [62, 62, 61], [62, 62, 62, 61], [38, 61], [94, 61], [124, 61]]), kd := some (tRow [tLeft, tExpr]) }) 24 { kd := some (tRow [tExpr, tExpr]) }) (w21.setCells b 120 (#[.nilFunc, .nilFunc, .nilFunc, .nilFunc, (.func (.func f5) #[] c5)] : Array Value).toList) ∧ Kx b w21 (w21.setCells b 120 (#[.nilFunc, .nilFunc, .nilFunc, .nilFunc, (.func (.func f5) #[] c5)] : Array Value).toList)) := Lib.hid (HT.out.set 24 (by omega) hS)
  replace hS := Lib.hid hS.one
  go_wp2_with (refine wpList_store_mid rfl 63 _ _ rfl b 120 #[.nilFunc, .nilFunc, .nilFunc, .nilFunc, (.func (.func f5) #[] c5)] rfl rfl (HT.out.there 24 (by omega)) (by kernel_rfl) hS.out ?_; generalize w21.setCells b 120 (#[.nilFunc, .nilFunc, .nilFunc, .nilFunc, (.func (.func f5) #[] c5)] : Array Value).toList = w22 at hX ⊢; refine Hid.out ?_)
  clear hS
  replace T4 := Lib.hid (T4.out.abv (hX.out.2.abv hb))
  replace T5 := Lib.hid (T5.out.abv (hX.out.2.abv hb))
  replace HT := Lib.hid hX.out.1
  replace HK := Lib.hid (HK.out.trans hX.out.2)
  replace hn := HT.out.le
  clear hX
  refine Lib.hid ?_
  go_wp2
  go_end0
  exact ⟨⟨_, rfl⟩, HT.out, HK.out⟩
end Go.Proofs.YtfpmhahjemdodaaGreatDoor
