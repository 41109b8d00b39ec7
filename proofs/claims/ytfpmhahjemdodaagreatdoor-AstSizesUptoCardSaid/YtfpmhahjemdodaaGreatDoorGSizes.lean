/-
  The statement AstSizes: of every tree of bulk at most 1048576 Size and Depth are as the document has them; the tables of the library that are listed hold what their initialisers lay (the card ties that).
-/
import Derived.Test.YtfpmhahjemdodaaGreatDoorMqbc
import Derived.Test.YtfpmhahjemdodaaGreatDoorK4
import Derived.JoinedCond
import Derived.Carry
import Derived.Test.YtfpmhahjemdodaaGreatDoorFrameS
import Derived.Laws.Cover2
namespace Go.Proofs.YtfpmhahjemdodaaGreatDoor.gAstSizes
open Go.ChangeShapes Go.WideShapes Go.ChangeAt Go.RowKit
open Go.ChangeMaps (open_string shut_string)
theorem own : ownKnob Tryz.prog.godebug = none := by kernel_rfl
theorem laidOut : laidOutB Tryz.prog = true := by kernel_rfl
theorem small {H : Type} {d : DataW H} (hk : Rows.uptoSmall H [d] = true) : Rows.uptoBulk d ≤ 1048576 := by
  have h : Rows.uptoBulkAll [d] ≤ 1048576 := of_decide_eq_true hk
  simp only [Rows.uptoBulkAll] at h
  omega
set_option maxRecDepth 100000 in
theorem contract (H : Type) (enc : TypeId × Value → H) (W : World) (base : Nat) (args : Array Value) (ds gs : List (DataW H)) (before : List MemPlace)
    (hval : ∀ (j : Nat) t v, Tryz.f3.params[j]? = some t → args[j]? = some v → Value.okWide Tryz.prog W .any base t v)
    (hW : DataW.Whole enc Tryz.prog Tryz.f3.params.toList Rows.astSizesSpec.vars false W args.toList ds gs before) (hk : Rows.uptoSmall H (ds ++ gs) = true) :
    Calls Tryz.prog 3 args W fun e W' => ∃ v, e = .returned v ∧ Rows.astSizesSpec.post enc Tryz.prog Tryz.f3 false true false false W args v W' := by
  have hW' := hW
  obtain ⟨p, q, hA0, hV, rfl, hfz, hnd⟩ := hW
  have hA : DataW.TrodAll enc Tryz.prog W 0 (fun _ => true) true Tryz.f3.params.toList args.toList ds p := hA0
  rw [Tryz.params3] at hA hval
  obtain ⟨v0, vs0, d0, ds0, p0, q0, hargs, rfl, rfl, h0, r0⟩ := trodAll_cons hA
  obtain ⟨rfl, rfl, rfl⟩ := trodAll_nil r0
  obtain rfl : args = #[v0] := by cases args; simp_all
  obtain ⟨rfl, rfl⟩ := trodVars_none hV
  clear hA0
  obtain ⟨cs, rfl, -⟩ := okWide_struct Tryz.underlying25 (hval 0 25 v0 rfl rfl)
  have h0k := h0
  obtain ⟨fuel, hf⟩ := h0
  obtain ⟨t, hAt, hN, hwt⟩ := trodB fuel hf
  obtain ⟨s, hcs, hAs⟩ := at_parts hAt
  obtain ⟨A, c, rfl, -, -⟩ := id hAs
  simp only [List.append_nil] at hW' hk
  have hb := small hk
  have hltp : ∀ x ∈ p0, x.block < W.heap.size := fun x hx => by simpa using hW'.lt x (by simp [hx])
  obtain rfl : cs = (celN t.datum (.slice A t.kids.length c)).toArray := Array.toList_inj.1 hcs
  have hsz := size_wt t
  have hbt : wt t ≤ 1048576 := Nat.le_trans hwt hb
  refine (sizes_law t A c W hAs (by omega) awake07_any).mono fun e W' ⟨he, bel⟩ => ?_
  subst he
  exact ⟨_, rfl, _, _, _, [], _, [], hW', trodAll_mk1 (shut_bool Tryz.underlying4 _), trodAll_mk1 (Below.trod laidOut (by kernel_rfl) (of_decide_eq_true (by kernel_rfl)) h0k bel hltp), rfl, bel.frame _, fun h => by cases h⟩
theorem reads (os : Os) {H : Type} (enc : TypeId × Value → H) : ∃ places, DataW.whole enc Tryz.prog ((laidWorld os).forCall (fun _ _ => 0) ⟨#[], #[.agg #[.int .i64 0, .string .empty, .string .empty, .float .f64 0, .bool false, .slice none 0 0, .int .i64 0]], []⟩).memory Tryz.f3.params.toList Rows.astSizesSpec.vars false (#[.agg #[.int .i64 0, .string .empty, .string .empty, .float .f64 0, .bool false, .slice none 0 0, .int .i64 0]] : Array Value).toList 8 = some ([.agg [.lit (.int .i64 0), .lit (.string []), .lit (.string []), .lit (.float .f64 0), .lit (.bool false), .nil, .lit (.int .i64 0)]], [], places) :=
  ⟨[], by kernel_rfl⟩
set_option maxRecDepth 100000 in
theorem lifted (os : Os) (started : os.Started) (H : Type) (enc : TypeId × Value → H) (F : Stop.Interp) :
    ReturnsInHanded {} Tryz.checked os 3 .any ((Rows.OpenSpec.upto Rows.astSizesSpec).preRow enc Tryz.prog Tryz.f3 Rows.astSizesUptoRow.domain false Rows.astSizesUptoRow.laid) (((Rows.OpenSpec.upto Rows.astSizesSpec).at F).post enc Tryz.prog Tryz.f3 false true false false) := by
  obtain ⟨places, hx⟩ := reads os enc
  refine returnsInHanded_of_row (C := Tryz.checked) (s := Rows.OpenSpec.upto Rows.astSizesSpec) own started (by kernel_rfl) Tryz.func3
    (witness_sh (enc := enc) (C := Tryz.checked) false (laidWorld os) #[.agg #[.int .i64 0, .string .empty, .string .empty, .float .f64 0, .bool false, .slice none 0 0, .int .i64 0]] (world_os os) (shaped os _) (by kernel_rfl)
      (OpenSpec.preRow_of_cond 8 hx (by kernel_rfl) (fun k hk => by cases hk; kernel_rfl) (by kernel_rfl) (laid_met os _))) ?_
  intro W base args ds gs before hval hW _ hcond _ _ _ _
  exact contract H enc W base args ds gs before hval hW (hcond _ rfl)
theorem and_in {a b : Bool} (ha : a = true) (hb : b = true) : (a && b) = true := by rw [ha, hb]; rfl
theorem j_0 : (Rows.astSizesUptoRow.wf (OpenSpec.ofChange (Rows.OpenSpec.upto Rows.astSizesSpec).bare)) = true := by kernel_rfl
theorem j_1 : (laidOutB Tryz.pinned.checked.prog) = true := by kernel_rfl
theorem j_2 : (mapsRowed Tryz.pinned.checked.prog) = true := by kernel_rfl
theorem j_3 : (Tryz.f3.params.all (Tryz.pinned.checked.prog.readableRec ·)) = true := by kernel_rfl
theorem j_4 : (namedTie Tryz.pinned.checked.prog Rows.astSizesUptoRow.named (Rows.OpenSpec.upto Rows.astSizesSpec).bare.vars) = true := by kernel_rfl
theorem j_5 : ((Rows.astSizesUptoRow.stops == [])) = true := by kernel_rfl
theorem j_6 : ((Tryz.pinned.checked.prog.stops == [])) = true := by kernel_rfl
theorem j_7 : ((Rows.astSizesUptoRow.knobs == [])) = true := by kernel_rfl
theorem j_8 : ((Tryz.pinned.checked.prog.stopKnobs == [])) = true := by kernel_rfl
theorem j_9 : ((Rows.astSizesUptoRow.inPlace == Tryz.pinned.checked.prog.inPlace 3)) = true := by kernel_rfl
theorem j_10 : ((Rows.astSizesUptoRow.unfollowed == Tryz.pinned.checked.prog.unfollowed 3)) = true := by kernel_rfl
theorem j_11 : ((Rows.astSizesUptoRow.recurses == Tryz.pinned.checked.prog.recurses 3)) = true := by kernel_rfl
theorem j_12 : ((Rows.astSizesUptoRow.named == Tryz.pinned.checked.prog.varsNamed 3)) = true := by kernel_rfl
theorem j_13 : ((Rows.astSizesUptoRow.maps == (Tryz.f3.params.toList ++ (Rows.OpenSpec.upto Rows.astSizesSpec).bare.plain.varTypes Tryz.pinned.checked.prog).any (Tryz.pinned.checked.prog.mapsRec ·))) = true := by kernel_rfl
theorem j_14 : ((Rows.astSizesUptoRow.ifaces == (Tryz.f3.params.toList ++ (Rows.OpenSpec.upto Rows.astSizesSpec).bare.plain.varTypes Tryz.pinned.checked.prog).any (Tryz.pinned.checked.prog.ifacesRec ·))) = true := by kernel_rfl
theorem j_15 : ((Rows.astSizesUptoRow.mapsOut == Tryz.pinned.checked.prog.mapsAmong Tryz.f3.resultTypes.toList)) = true := by kernel_rfl
theorem j_16 : ((Rows.astSizesUptoRow.loops == (Tryz.f3.params.toList ++ (Rows.OpenSpec.upto Rows.astSizesSpec).bare.plain.varTypes Tryz.pinned.checked.prog).any (Tryz.pinned.checked.prog.loopsFrom ·))) = true := by kernel_rfl
theorem j_17 : ((Rows.astSizesUptoRow.wideKeys == (Tryz.f3.params.toList ++ (Rows.OpenSpec.upto Rows.astSizesSpec).bare.plain.varTypes Tryz.pinned.checked.prog ++ Tryz.f3.resultTypes.toList).any (Tryz.pinned.checked.prog.wideKeysFrom ·))) = true := by kernel_rfl
theorem j_18 : ((Rows.OpenSpec.upto Rows.astSizesSpec).bare.vars.all (Tryz.pinned.checked.prog.varReadable ·)) = true := by kernel_rfl
theorem j_19 : (Tryz.f3.resultTypes.all (fun t => Tryz.pinned.checked.prog.readableRec t && decide (t < Tryz.pinned.checked.prog.types.size))) = true := by kernel_rfl
theorem j_20 : ((Rows.astSizesUptoRow.ifacesOut == Tryz.f3.resultTypes.toList.any (Tryz.pinned.checked.prog.ifacesRec ·))) = true := by kernel_rfl
theorem j_21 : ((Rows.astSizesUptoRow.loopsOut == Tryz.f3.resultTypes.toList.any (Tryz.pinned.checked.prog.loopsFrom ·))) = true := by kernel_rfl
theorem j_22 : ((Rows.astSizesUptoRow.plainKeys == Tryz.pinned.checked.prog.plainKeys)) = true := by kernel_rfl
theorem j_23 : (Rows.astSizesUptoRow.shortTexts.isNone) = true := by kernel_rfl
theorem j_24 : (Tryz.pinned.checked.prog.stopsHeard) = true := by kernel_rfl
theorem j_25 : (Tryz.pinned.checked.prog.mayEnter) = true := by kernel_rfl
theorem j_26 : ((Rows.astSizesUptoRow.lifted == Tryz.pinned.checked.prog.liftsFinal)) = true := by kernel_rfl
theorem j_27 : ((Tryz.pinned.checked.prog.make == some Rows.astSizesUptoRow.make)) = true := by kernel_rfl
theorem j_28 : ((Rows.astSizesUptoRow.kinds == (if Rows.astSizesUptoRow.domain.isEmpty then [] else Tryz.f3.params.toList.map fun t => match Tryz.pinned.checked.prog.underlying t with | some (.int k) => some k | _ => none))) = true := by kernel_rfl
theorem j_29 : ((Rows.astSizesUptoRow.pinned == Rows.astSizesUptoRow.pinnedBy)) = true := by kernel_rfl
theorem j_30 : ((Rows.astSizesUptoRow.veiled == (Tryz.f3.params.toList ++ (Rows.OpenSpec.upto Rows.astSizesSpec).bare.plain.varTypes Tryz.pinned.checked.prog ++ Tryz.f3.resultTypes.toList).any (Tryz.pinned.checked.prog.veiledRec ·))) = true := by kernel_rfl
theorem j_31 : (Rows.astSizesUptoRow.veiledFits Tryz.pinned.checked.prog Tryz.f3.params.toList (Tryz.f3.params.toList ++ (Rows.OpenSpec.upto Rows.astSizesSpec).bare.plain.varTypes Tryz.pinned.checked.prog ++ Tryz.f3.resultTypes.toList)) = true := by kernel_rfl
set_option maxRecDepth 100000 in
theorem facts : joinedFacts Tryz.pinned.checked.prog 3 Tryz.f3 (Rows.OpenSpec.upto Rows.astSizesSpec).bare Rows.astSizesUptoRow = true := by
  unfold joinedFacts
  exact (and_in (and_in (and_in (and_in (and_in (and_in (and_in (and_in (and_in (and_in (and_in (and_in (and_in (and_in (and_in (and_in (and_in (and_in (and_in (and_in (and_in (and_in (and_in (and_in (and_in (and_in (and_in (and_in (and_in (and_in (and_in j_0 j_1) j_2) j_3) j_4) j_5) j_6) j_7) j_8) j_9) j_10) j_11) j_12) j_13) j_14) j_15) j_16) j_17) j_18) j_19) j_20) j_21) j_22) j_23) j_24) j_25) j_26) j_27) j_28) j_29) j_30) j_31)
theorem said : Rows.AstSizesUptoSaid :=
  OpenClaim.holds_of_cond 3 Tryz.f3 rfl rfl rfl rfl rfl rfl rfl ⟨rfl, rfl, rfl, rfl, rfl⟩ rfl rfl rfl rfl rfl (by kernel_rfl) Tryz.func3 facts
    (of_decide_eq_true (by kernel_rfl)) (by unfold Func.isWrapper; first | (rw [if_pos (by decide +kernel)]; kernel_rfl) | (rw [if_neg (by decide +kernel)]; exact ⟨rfl, rfl⟩))
    (fun os started H enc _ F => by rw [OpenClaim.pre_eq_preRow]; exact lifted os started H enc F)
theorem plain (f : FuncId) (fn : Func) (hf : Tryz.pinned.checked.prog.funcNamed "quill/quilllaw07.AstSizes" = some f) (hfn : Tryz.pinned.checked.prog.funcs[f]? = some fn) :
    false = Tryz.pinned.checked.prog.looks [] ∧ ∀ (j : Nat) t, fn.params[j]? = some t → Tryz.pinned.checked.prog.wantsStandIn t = false := by
  obtain rfl : f = 3 := Option.some.inj ((show Tryz.prog.funcNamed "quill/quilllaw07.AstSizes" = some 3 by kernel_rfl).symm.trans hf) |>.symm
  obtain rfl : fn = Tryz.f3 := (Option.some.inj (Tryz.func3.symm.trans hfn)).symm
  refine ⟨by kernel_rfl, fun j t ht => ?_⟩
  rw [Tryz.params3] at ht
  have hm : t ∈ [25] := by simpa using Array.mem_of_getElem? ht
  have hall : ([25].all fun u => !Tryz.prog.wantsStandIn u) = true := by kernel_rfl
  exact (show Tryz.prog.wantsStandIn t = false by simpa using List.all_eq_true.1 hall t hm)
end Go.Proofs.YtfpmhahjemdodaaGreatDoor.gAstSizes
namespace Go.Proofs.YtfpmhahjemdodaaGreatDoor
/-- AstSizes, the card. -/
theorem astSizesUpto_card : Rows.AstSizesUptoCardSaid :=
  Claim7.holds_tied_plain_at .later [] _ _ _ _ gAstSizes.said (fun _ h => by cases h) (by kernel_rfl) (fun _ h => by cases h) astSizesUpto_row_tie rfl ⟨rfl, rfl⟩ (by kernel_rfl) rfl gAstSizes.plain (by kernel_rfl)
end Go.Proofs.YtfpmhahjemdodaaGreatDoor
