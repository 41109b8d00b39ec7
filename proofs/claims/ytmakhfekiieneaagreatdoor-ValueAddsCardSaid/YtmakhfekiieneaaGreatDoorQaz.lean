/-
  The statement ValueAdds holds of every two values; the tables of the library that are listed hold what their initialisers lay (the card ties that).
-/
import Derived.Test.YtmakhfekiieneaaGreatDoorQay
import Derived.Test.YtmakhfekiieneaaGreatDoorCards
import Derived.Test.YtmakhfekiieneaaGreatDoorTie
import Derived.Laws.Cover2
namespace Go.Proofs.YtmakhfekiieneaaGreatDoor.gValueAdds
open Go.ChangeShapes Go.WideShapes Go.ChangeAt Go.RowKit
set_option maxRecDepth 100000 in
theorem contract (H : Type) (enc : TypeId × Value → H) (W : World) (base : Nat) (args : Array Value) (ds gs : List (DataW H)) (before : List MemPlace)
    (hval : ∀ (j : Nat) t v, Tryz.f7.params[j]? = some t → args[j]? = some v → Value.okWide Tryz.prog W .any base t v)
    (hW : DataW.Whole enc Tryz.prog Tryz.f7.params.toList Rows.valueAddsSpec.vars false W args.toList ds gs before)
    (hsz : (DataW.weightsEach Tryz.prog (Tryz.f7.params.toList ++ (OpenSpec.ofChange Rows.valueAddsSpec).bare.plain.varTypes Tryz.prog) (ds ++ gs)).all (· ≤ reachBytes) = true)
    (hlaid : laidMetH Tryz.prog Rows.valueAddsRow.laid W) :
    Calls Tryz.prog 7 args W fun e W' => ∃ v, e = .returned v ∧ Rows.valueAddsSpec.post enc Tryz.prog Tryz.f7 false true false false W args v W' := by
  have hW' := hW
  obtain ⟨p, q, hA0, hV, rfl, hfz, hnd⟩ := hW
  have hA : DataW.TrodAll enc Tryz.prog W 0 (fun _ => true) true Tryz.f7.params.toList args.toList ds p := hA0
  rw [Tryz.params7] at hA hval hsz
  obtain ⟨v0, vs0, d0, ds0, p0, q0, hargs, rfl, rfl, h0, r0⟩ := trodAll_cons hA
  obtain ⟨v1, vs1, d1, ds1, p1, q1, rfl, rfl, rfl, h1, r1⟩ := trodAll_cons r0
  obtain ⟨rfl, rfl, rfl⟩ := trodAll_nil r1
  obtain rfl : args = #[v0, v1] := by cases args; simp_all
  obtain ⟨rfl, rfl⟩ := trodVars_none hV
  clear hA0
  obtain ⟨a0, rfl, rfl, rfl, w0⟩ := Xl (hval 0 24 v0 rfl rfl) h0
  have z0 := Sg hsz (j := 0) (x := a0) rfl rfl
  obtain ⟨a1, rfl, rfl, rfl, w1⟩ := Xl (hval 1 24 v1 rfl rfl) h1
  have z1 := Sg hsz (j := 1) (x := a1) rfl rfl
  have ht := tab10_of hlaid
  have hz := tz_of hlaid
  simp only [List.append_nil] at hW'
  refine (Abu a0 a1 W ht hz w0.num w1.num z0 z1).mono fun e W' ⟨he, bel⟩ => ?_
  subst he
  exact ⟨_, rfl, _, _, _, [], _, [], hW', trodAll_mk1 (shut_bool Tryz.underlying4 _), (trodAll_cons_mk (V7 w0) (trodAll_cons_mk (V7 w1) trodAll_mk0)), rfl, bel.frame _, fun h => by cases h⟩
theorem reads (os : Os) {H : Type} (enc : TypeId × Value → H) : ∃ places, DataW.whole enc Tryz.prog ((laidWorld os).forCall (fun _ _ => 0) ⟨#[], #[Value.agg #[Value.int .i64 0, Value.bool false, Value.float .f64 0, Value.string ⟨#[]⟩, Value.int .i64 0], Value.agg #[Value.int .i64 0, Value.bool false, Value.float .f64 0, Value.string ⟨#[]⟩, Value.int .i64 0]], []⟩).memory Tryz.f7.params.toList Rows.valueAddsSpec.vars false (#[Value.agg #[Value.int .i64 0, Value.bool false, Value.float .f64 0, Value.string ⟨#[]⟩, Value.int .i64 0], Value.agg #[Value.int .i64 0, Value.bool false, Value.float .f64 0, Value.string ⟨#[]⟩, Value.int .i64 0]] : Array Value).toList 8 = some ([.agg [.lit (.int .i64 0), .lit (.bool false), .lit (.float .f64 0), .lit (.string []), .lit (.int .i64 0)], .agg [.lit (.int .i64 0), .lit (.bool false), .lit (.float .f64 0), .lit (.string []), .lit (.int .i64 0)]], [], places) :=
  ⟨[], by kernel_rfl⟩
set_option maxRecDepth 100000 in
theorem lifted (os : Os) (started : os.Started) (H : Type) (enc : TypeId × Value → H) (F : Stop.Interp) :
    ReturnsInHanded {} Tryz.checked os 7 .any ((OpenSpec.ofChange Rows.valueAddsSpec).preRow enc Tryz.prog Tryz.f7 Rows.valueAddsRow.domain false Rows.valueAddsRow.laid) (((OpenSpec.ofChange Rows.valueAddsSpec).at F).post enc Tryz.prog Tryz.f7 false true false false) := by
  obtain ⟨places, hx⟩ := reads os enc
  refine returnsInHanded_of_row (C := Tryz.checked) (s := OpenSpec.ofChange Rows.valueAddsSpec) own started (by kernel_rfl) Tryz.func7
    (witness_sh (enc := enc) (C := Tryz.checked) false (laidWorld os) #[Value.agg #[Value.int .i64 0, Value.bool false, Value.float .f64 0, Value.string ⟨#[]⟩, Value.int .i64 0], Value.agg #[Value.int .i64 0, Value.bool false, Value.float .f64 0, Value.string ⟨#[]⟩, Value.int .i64 0]] (world_os os) (shaped os _) (by kernel_rfl)
      (OpenSpec.preRow_of_cond 8 hx (by kernel_rfl) (fun k hk => by cases hk) (by kernel_rfl) (laid_met os _))) ?_
  intro W base args ds gs before hval hW _ _ hsz hlaid _ _
  exact contract H enc W base args ds gs before hval hW hsz hlaid
theorem said : Rows.ValueAddsSaid :=
  OpenClaim.holds_of_cond 7 Tryz.f7 rfl rfl rfl rfl rfl rfl rfl ⟨rfl, rfl, rfl, rfl, rfl⟩ rfl rfl rfl rfl rfl (by kernel_rfl) Tryz.func7 (by kernel_rfl)
    (of_decide_eq_true (by kernel_rfl)) (by unfold Func.isWrapper; first | (rw [if_pos (by decide +kernel)]; kernel_rfl) | (rw [if_neg (by decide +kernel)]; exact ⟨rfl, rfl⟩))
    (fun os started H enc _ F => by rw [OpenClaim.pre_eq_preRow]; exact lifted os started H enc F)
theorem plain (f : FuncId) (fn : Func) (hf : Tryz.pinned.checked.prog.funcNamed "quill/quilllaw11.ValueAdds" = some f) (hfn : Tryz.pinned.checked.prog.funcs[f]? = some fn) :
    false = Tryz.pinned.checked.prog.looks [] ∧ ∀ (j : Nat) t, fn.params[j]? = some t → Tryz.pinned.checked.prog.wantsStandIn t = false := by
  obtain rfl : f = 7 := Option.some.inj ((show Tryz.prog.funcNamed "quill/quilllaw11.ValueAdds" = some 7 by kernel_rfl).symm.trans hf) |>.symm
  obtain rfl : fn = Tryz.f7 := (Option.some.inj (Tryz.func7.symm.trans hfn)).symm
  refine ⟨by kernel_rfl, fun j t ht => ?_⟩
  rw [Tryz.params7] at ht
  have hm : t ∈ [24, 24] := by simpa using Array.mem_of_getElem? ht
  have hall : ([24, 24].all fun u => !Tryz.prog.wantsStandIn u) = true := by kernel_rfl
  exact (show Tryz.prog.wantsStandIn t = false by simpa using List.all_eq_true.1 hall t hm)
end Go.Proofs.YtmakhfekiieneaaGreatDoor.gValueAdds
namespace Go.Proofs.YtmakhfekiieneaaGreatDoor
/-- ValueAdds, the card. -/
theorem valueAdds_card : Rows.ValueAddsCardSaid :=
  Claim7.holds_tied_plain_at .later [] _ _ _ _ gValueAdds.said (fun _ h => by cases h) (by kernel_rfl) (fun _ h => by cases h) valueAdds_row_tie rfl ⟨rfl, rfl⟩ (by kernel_rfl) rfl gValueAdds.plain (by kernel_rfl)
end Go.Proofs.YtmakhfekiieneaaGreatDoor
