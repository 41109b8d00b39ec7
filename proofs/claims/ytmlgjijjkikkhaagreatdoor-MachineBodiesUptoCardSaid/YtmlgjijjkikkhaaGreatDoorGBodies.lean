/-
  The statement MachineBodies, where what it reads is of bulk at most 1048576: a body that was set is entered with the object, what it is called on and the arguments, and its end is the call's end, made that of a function; the tables of the library that are listed hold what their initialisers lay (the card ties that).
-/
import Derived.Test.YtmlgjijjkikkhaaGreatDoorMo2
import Derived.Test.YtmlgjijjkikkhaaGreatDoorMb4
namespace Go.Proofs.YtmlgjijjkikkhaaGreatDoor.gMachineBodies
open Go.ChangeShapes Go.WideShapes Go.ChangeAt Go.RowKit
set_option maxRecDepth 100000 in
theorem contract (H : Type) (enc : TypeId × Value → H) (W : World) (base : Nat) (args : Array Value) (ds gs : List (DataW H)) (before : List MemPlace)
    (hval : ∀ (j : Nat) t v, Tryz.f6.params[j]? = some t → args[j]? = some v → Value.okWide Tryz.prog W .any base t v)
    (hW : DataW.Whole enc Tryz.prog Tryz.f6.params.toList Rows.machineBodiesSpec.vars false W args.toList ds gs before) (hk : Rows.uptoSmall H (ds ++ gs) = true) :
    Calls Tryz.prog 6 args W fun e W' => ∃ v, e = .returned v ∧ Rows.machineBodiesSpec.post enc Tryz.prog Tryz.f6 false true false false W args v W' := by
  have hW' := hW
  obtain ⟨p, q, hA0, hV, rfl, hfz, hnd⟩ := hW
  have hA : DataW.TrodAll enc Tryz.prog W 0 (fun _ => true) true Tryz.f6.params.toList args.toList ds p := hA0
  rw [Tryz.params6] at hA hval
  obtain ⟨v0, vs0, d0, ds0, p0, q0, hargs, rfl, rfl, h0, r0⟩ := trodAll_cons hA
  obtain ⟨v1, vs1, d1, ds1, p1, q1, rfl, rfl, rfl, h1, r1⟩ := trodAll_cons r0
  obtain ⟨v2, vs2, d2, ds2, p2, q2, rfl, rfl, rfl, h2, r2⟩ := trodAll_cons r1
  obtain ⟨rfl, rfl, rfl⟩ := trodAll_nil r2
  obtain rfl : args = #[v0, v1, v2] := by cases args; simp_all
  obtain ⟨rfl, rfl⟩ := trodVars_none hV
  clear hA0
  have lt0 : ∀ x ∈ p0, x.block < W.heap.size := by obtain ⟨m, hm⟩ := h0; exact DataW.trod_lt m _ _ _ hm
  have lt1 : ∀ x ∈ p1, x.block < W.heap.size := by obtain ⟨m, hm⟩ := h1; exact DataW.trod_lt m _ _ _ hm
  have lt2 : ∀ x ∈ p2, x.block < W.heap.size := by obtain ⟨m, hm⟩ := h2; exact DataW.trod_lt m _ _ _ hm
  obtain ⟨k, x, s, rfl, hs⟩ := open_done (hval 0 63 v0 rfl rfl) h0
  obtain ⟨x0, rfl⟩ := open_valX (hval 1 57 v1 rfl rfl) h1
  obtain ⟨A, len, c, rfl⟩ := okWide_slice Tryz.underlying59 (hval 2 59 v2 rfl rfl)
  simp only [List.append_nil] at hW' hk
  have hb : Rows.uptoBulk d2 ≤ 4194304 := by
    have h : Rows.uptoBulkAll [d0, d1, d2] ≤ 1048576 := of_decide_eq_true hk
    simp only [Rows.uptoBulkAll] at h
    omega
  obtain ⟨l, rfl, hv⟩ := vals_open h2 hb
  refine (bodies_go hs hv).mono fun e W' ⟨he, bel⟩ => ?_
  subst he
  exact ⟨_, rfl, _, _, _, [], _, [], hW', trodAll_mk1 (shut_bool Tryz.underlying4 _), (trodAll_cons_mk (Below.trod laidOut (by kernel_rfl) (of_decide_eq_true (by kernel_rfl)) h0 bel lt0) (trodAll_cons_mk (Below.trod laidOut (by kernel_rfl) (of_decide_eq_true (by kernel_rfl)) h1 bel lt1) (trodAll_cons_mk (Below.trod laidOut (by kernel_rfl) (of_decide_eq_true (by kernel_rfl)) h2 bel lt2) trodAll_mk0))), rfl, bel.frame _, fun h => by cases h⟩
theorem reads (os : Os) {H : Type} (enc : TypeId × Value → H) : ∃ places, DataW.whole enc Tryz.prog ((laidWorld os).forCall (fun _ _ => 0) ⟨#[], #[.agg #[.int .i64 0, .int .i64 0, .bool false, .float .f64 0, .string .empty, .int .i64 0, .string .empty], .agg #[.int .i64 0, .bool false, .float .f64 0, .string .empty, .int .i64 0], .slice none 0 0], []⟩).memory Tryz.f6.params.toList Rows.machineBodiesSpec.vars false (#[.agg #[.int .i64 0, .int .i64 0, .bool false, .float .f64 0, .string .empty, .int .i64 0, .string .empty], .agg #[.int .i64 0, .bool false, .float .f64 0, .string .empty, .int .i64 0], .slice none 0 0] : Array Value).toList 8 = some ([.agg [.lit (.int .i64 0), .agg [.lit (.int .i64 0), .lit (.bool false), .lit (.float .f64 0), .lit (.string []), .lit (.int .i64 0)], .lit (.string [])], .agg [.lit (.int .i64 0), .lit (.bool false), .lit (.float .f64 0), .lit (.string []), .lit (.int .i64 0)], .nil], [], places) :=
  ⟨[], by kernel_rfl⟩
set_option maxRecDepth 100000 in
theorem lifted (os : Os) (started : os.Started) (H : Type) (enc : TypeId × Value → H) (F : Stop.Interp) :
    ReturnsInHanded {} Tryz.checked os 6 .any ((Rows.OpenSpec.upto Rows.machineBodiesSpec).preRow enc Tryz.prog Tryz.f6 Rows.machineBodiesUptoRow.domain false Rows.machineBodiesUptoRow.laid) (((Rows.OpenSpec.upto Rows.machineBodiesSpec).at F).post enc Tryz.prog Tryz.f6 false true false false) := by
  obtain ⟨places, hx⟩ := reads os enc
  refine returnsInHanded_of_row (C := Tryz.checked) (s := Rows.OpenSpec.upto Rows.machineBodiesSpec) own started (by kernel_rfl) Tryz.func6
    (witness_sh (enc := enc) (C := Tryz.checked) false (laidWorld os) #[.agg #[.int .i64 0, .int .i64 0, .bool false, .float .f64 0, .string .empty, .int .i64 0, .string .empty], .agg #[.int .i64 0, .bool false, .float .f64 0, .string .empty, .int .i64 0], .slice none 0 0] (world_os os) (shaped os _) (by kernel_rfl)
      (OpenSpec.preRow_of_cond 8 hx (by kernel_rfl) (fun k hk => by cases hk; kernel_rfl) (by kernel_rfl) (laid_met os _))) ?_
  intro W base args ds gs before hval hW _ hcond _ _ _ _
  exact contract H enc W base args ds gs before hval hW (hcond _ rfl)
theorem and_in {a b : Bool} (ha : a = true) (hb : b = true) : (a && b) = true := by rw [ha, hb]; rfl
theorem j_0 : (Rows.machineBodiesUptoRow.wf (OpenSpec.ofChange (Rows.OpenSpec.upto Rows.machineBodiesSpec).bare)) = true := by kernel_rfl
theorem j_1 : (laidOutB Tryz.pinned.checked.prog) = true := by kernel_rfl
theorem j_2 : (mapsRowed Tryz.pinned.checked.prog) = true := by kernel_rfl
theorem j_3 : (Tryz.f6.params.all (Tryz.pinned.checked.prog.readableRec ·)) = true := by kernel_rfl
theorem j_4 : (namedTie Tryz.pinned.checked.prog Rows.machineBodiesUptoRow.named (Rows.OpenSpec.upto Rows.machineBodiesSpec).bare.vars) = true := by kernel_rfl
theorem j_5 : ((Rows.machineBodiesUptoRow.stops == [])) = true := by kernel_rfl
theorem j_6 : ((Tryz.pinned.checked.prog.stops == [])) = true := by kernel_rfl
theorem j_7 : ((Rows.machineBodiesUptoRow.knobs == [])) = true := by kernel_rfl
theorem j_8 : ((Tryz.pinned.checked.prog.stopKnobs == [])) = true := by kernel_rfl
theorem j_9 : ((Rows.machineBodiesUptoRow.inPlace == Tryz.pinned.checked.prog.inPlace 6)) = true := by kernel_rfl
theorem j_10 : ((Rows.machineBodiesUptoRow.unfollowed == Tryz.pinned.checked.prog.unfollowed 6)) = true := by kernel_rfl
theorem j_11 : ((Rows.machineBodiesUptoRow.recurses == Tryz.pinned.checked.prog.recurses 6)) = true := by kernel_rfl
theorem j_12 : ((Rows.machineBodiesUptoRow.named == Tryz.pinned.checked.prog.varsNamed 6)) = true := by kernel_rfl
theorem j_13 : ((Rows.machineBodiesUptoRow.maps == (Tryz.f6.params.toList ++ (Rows.OpenSpec.upto Rows.machineBodiesSpec).bare.plain.varTypes Tryz.pinned.checked.prog).any (Tryz.pinned.checked.prog.mapsRec ·))) = true := by kernel_rfl
theorem j_14 : ((Rows.machineBodiesUptoRow.ifaces == (Tryz.f6.params.toList ++ (Rows.OpenSpec.upto Rows.machineBodiesSpec).bare.plain.varTypes Tryz.pinned.checked.prog).any (Tryz.pinned.checked.prog.ifacesRec ·))) = true := by kernel_rfl
theorem j_15 : ((Rows.machineBodiesUptoRow.mapsOut == Tryz.pinned.checked.prog.mapsAmong Tryz.f6.resultTypes.toList)) = true := by kernel_rfl
theorem j_16 : ((Rows.machineBodiesUptoRow.loops == (Tryz.f6.params.toList ++ (Rows.OpenSpec.upto Rows.machineBodiesSpec).bare.plain.varTypes Tryz.pinned.checked.prog).any (Tryz.pinned.checked.prog.loopsFrom ·))) = true := by kernel_rfl
theorem j_17 : ((Rows.machineBodiesUptoRow.wideKeys == (Tryz.f6.params.toList ++ (Rows.OpenSpec.upto Rows.machineBodiesSpec).bare.plain.varTypes Tryz.pinned.checked.prog ++ Tryz.f6.resultTypes.toList).any (Tryz.pinned.checked.prog.wideKeysFrom ·))) = true := by kernel_rfl
theorem j_18 : ((Rows.OpenSpec.upto Rows.machineBodiesSpec).bare.vars.all (Tryz.pinned.checked.prog.varReadable ·)) = true := by kernel_rfl
theorem j_19 : (Tryz.f6.resultTypes.all (fun t => Tryz.pinned.checked.prog.readableRec t && decide (t < Tryz.pinned.checked.prog.types.size))) = true := by kernel_rfl
theorem j_20 : ((Rows.machineBodiesUptoRow.ifacesOut == Tryz.f6.resultTypes.toList.any (Tryz.pinned.checked.prog.ifacesRec ·))) = true := by kernel_rfl
theorem j_21 : ((Rows.machineBodiesUptoRow.loopsOut == Tryz.f6.resultTypes.toList.any (Tryz.pinned.checked.prog.loopsFrom ·))) = true := by kernel_rfl
theorem j_22 : ((Rows.machineBodiesUptoRow.plainKeys == Tryz.pinned.checked.prog.plainKeys)) = true := by kernel_rfl
theorem j_23 : (Rows.machineBodiesUptoRow.shortTexts.isNone) = true := by kernel_rfl
theorem j_24 : (Tryz.pinned.checked.prog.stopsHeard) = true := by kernel_rfl
theorem j_25 : (Tryz.pinned.checked.prog.mayEnter) = true := by kernel_rfl
theorem j_26 : ((Rows.machineBodiesUptoRow.lifted == Tryz.pinned.checked.prog.liftsFinal)) = true := by kernel_rfl
theorem j_27 : ((Tryz.pinned.checked.prog.make == some Rows.machineBodiesUptoRow.make)) = true := by kernel_rfl
theorem j_28 : ((Rows.machineBodiesUptoRow.kinds == (if Rows.machineBodiesUptoRow.domain.isEmpty then [] else Tryz.f6.params.toList.map fun t => match Tryz.pinned.checked.prog.underlying t with | some (.int k) => some k | _ => none))) = true := by kernel_rfl
theorem j_29 : ((Rows.machineBodiesUptoRow.pinned == Rows.machineBodiesUptoRow.pinnedBy)) = true := by kernel_rfl
theorem j_30 : ((Rows.machineBodiesUptoRow.veiled == (Tryz.f6.params.toList ++ (Rows.OpenSpec.upto Rows.machineBodiesSpec).bare.plain.varTypes Tryz.pinned.checked.prog ++ Tryz.f6.resultTypes.toList).any (Tryz.pinned.checked.prog.veiledRec ·))) = true := by kernel_rfl
theorem j_31 : (Rows.machineBodiesUptoRow.veiledFits Tryz.pinned.checked.prog Tryz.f6.params.toList (Tryz.f6.params.toList ++ (Rows.OpenSpec.upto Rows.machineBodiesSpec).bare.plain.varTypes Tryz.pinned.checked.prog ++ Tryz.f6.resultTypes.toList)) = true := by kernel_rfl
set_option maxRecDepth 100000 in
theorem facts : joinedFacts Tryz.pinned.checked.prog 6 Tryz.f6 (Rows.OpenSpec.upto Rows.machineBodiesSpec).bare Rows.machineBodiesUptoRow = true := by
  unfold joinedFacts
  exact (and_in (and_in (and_in (and_in (and_in (and_in (and_in (and_in (and_in (and_in (and_in (and_in (and_in (and_in (and_in (and_in (and_in (and_in (and_in (and_in (and_in (and_in (and_in (and_in (and_in (and_in (and_in (and_in (and_in (and_in (and_in j_0 j_1) j_2) j_3) j_4) j_5) j_6) j_7) j_8) j_9) j_10) j_11) j_12) j_13) j_14) j_15) j_16) j_17) j_18) j_19) j_20) j_21) j_22) j_23) j_24) j_25) j_26) j_27) j_28) j_29) j_30) j_31)
theorem said : Rows.MachineBodiesUptoSaid :=
  OpenClaim.holds_of_cond 6 Tryz.f6 rfl rfl rfl rfl rfl rfl rfl ⟨rfl, rfl, rfl, rfl, rfl⟩ rfl rfl rfl rfl rfl (by kernel_rfl) Tryz.func6 facts
    (of_decide_eq_true (by kernel_rfl)) (by unfold Func.isWrapper; first | (rw [if_pos (by decide +kernel)]; kernel_rfl) | (rw [if_neg (by decide +kernel)]; exact ⟨rfl, rfl⟩))
    (fun os started H enc _ F => by rw [OpenClaim.pre_eq_preRow]; exact lifted os started H enc F)
theorem plain (f : FuncId) (fn : Func) (hf : Tryz.pinned.checked.prog.funcNamed "quill/quilllaw14.MachineBodies" = some f) (hfn : Tryz.pinned.checked.prog.funcs[f]? = some fn) :
    false = Tryz.pinned.checked.prog.looks [] ∧ ∀ (j : Nat) t, fn.params[j]? = some t → Tryz.pinned.checked.prog.wantsStandIn t = false := by
  obtain rfl : f = 6 := Option.some.inj ((show Tryz.prog.funcNamed "quill/quilllaw14.MachineBodies" = some 6 by kernel_rfl).symm.trans hf) |>.symm
  obtain rfl : fn = Tryz.f6 := (Option.some.inj (Tryz.func6.symm.trans hfn)).symm
  refine ⟨by kernel_rfl, fun j t ht => ?_⟩
  rw [Tryz.params6] at ht
  have hm : t ∈ [63, 57, 59] := by simpa using Array.mem_of_getElem? ht
  have hall : ([63, 57, 59].all fun u => !Tryz.prog.wantsStandIn u) = true := by kernel_rfl
  exact (show Tryz.prog.wantsStandIn t = false by simpa using List.all_eq_true.1 hall t hm)
end Go.Proofs.YtmlgjijjkikkhaaGreatDoor.gMachineBodies
namespace Go.Proofs.YtmlgjijjkikkhaaGreatDoor
/-- MachineBodies, the card. -/
theorem machineBodiesUpto_card : Rows.MachineBodiesUptoCardSaid :=
  Claim7.holds_tied_plain_at .later [] _ _ _ _ gMachineBodies.said (fun _ h => by cases h) (by kernel_rfl) (fun _ h => by cases h) machineBodiesUpto_row_tie rfl ⟨rfl, rfl⟩ (by kernel_rfl) rfl gMachineBodies.plain (by kernel_rfl)
end Go.Proofs.YtmlgjijjkikkhaaGreatDoor
