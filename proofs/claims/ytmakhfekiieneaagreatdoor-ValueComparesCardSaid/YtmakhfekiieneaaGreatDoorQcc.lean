/-
  Merged texts (Cp, E1, F0, F1, F2, F3, T0, Us, Cm, BD, Dp, Dq, BE, Dc, De).
-/
import Derived.Test.YtmakhfekiieneaaGreatDoorQcb
import Derived.Deep.RegionHeld3
import Derived.Laws.StructEq
import Derived.Deep.WholeRow
import Derived.Laws.Rows
import Derived.Laws.Tables
import Derived.Laws.EntriesVeiled
import Derived.Laws.Closers25b
open Go.RowKit
set_option maxRecDepth 100000
set_option maxHeartbeats 40000000
namespace Go.Proofs.YtmakhfekiieneaaGreatDoor
section
def cn (x : Nat) : Nat := if Ck x = true then 9221120237041090560 else x
def olt (x y : Nat) : Bool := FloatKind.f64.format.order x y == some .lt
def oeq (x y : Nat) : Bool := FloatKind.f64.format.order x y == some .eq
theorem Ajt (x : Nat) (hx : x < 18446744073709551616) : decide (wrap64 (x : Int) < 0) = Cd x := by
 unfold Cd wrap64
 by_cases h : x < 9223372036854775808
 ·rw [decide_eq_false (by omega), Nat.div_eq_of_lt h]; rfl
 ·rw [decide_eq_true (by omega), show x / 9223372036854775808 = 1 by omega]; rfl
theorem Hp (x : Nat) (w : World) (hx : x < 18446744073709551616) : Cq 90 #[.float .f64 x] (.bool (Cd x)) w := by
 have h1 := Cb x w
 have h2 := Lh (Ajt x hx)
 clear hx
 go_enter Tryz.func90, Tryz.ntmps90
 go_wp2
 go_ret
 exact ⟨by rw [← h2.out]; rfl, rfl⟩
def Iw (x y : Nat) : Int := if (Ck x || Ck y) = true then -1 else if olt x y = true then 1 else 0
def Hq (x y : Nat) : Bool := (Ck x && Ck y) || (oeq x y && (Cd x == Cd y))
theorem Aba (x y : Nat) : (FloatKind.f64.format.order x y == some .lt) = olt x y := rfl
theorem Abb {x y : Nat} (h : (Ck x || Ck y) = true) : oeq x y = false := by
 unfold oeq
 rw [show FloatKind.f64.format.order x y = none from F2 (by unfold Ck at h; simpa using h)]
 rfl
theorem Rq (x y : Nat) (w : World) : Cq 62 #[.float .f64 x, .float .f64 y] (.int .i64 (Iw x y)) w := by
 have C1 := Lh (fun W => Bv x W)
 have C2 := Lh (fun W => Bv y W)
 have h1 := Aba x y
 unfold Iw
 cases e1 : Ck x
 ·cases e2 : Ck y
  ·cases e3 : olt x y
   ·rw [e1] at C1; rw [e2] at C2; rw [e3] at h1
    clear e1 e2 e3
    go_enter Tryz.func62, Tryz.ntmps62
    go_wp2_with fail
    refine Sm (C1.out _) ?_
    go_wp2_with fail
    refine Sm (C2.out _) ?_
    go_wp2
    go_ret
    exact ⟨rfl, rfl⟩
   ·rw [e1] at C1; rw [e2] at C2; rw [e3] at h1
    clear e1 e2 e3
    go_enter Tryz.func62, Tryz.ntmps62
    go_wp2_with fail
    refine Sm (C1.out _) ?_
    go_wp2_with fail
    refine Sm (C2.out _) ?_
    go_wp2
    go_ret
    exact ⟨rfl, rfl⟩
  ·rw [e1] at C1; rw [e2] at C2
   clear e1 e2
   go_enter Tryz.func62, Tryz.ntmps62
   go_wp2_with fail
   refine Sm (C1.out _) ?_
   go_wp2_with fail
   refine Sm (C2.out _) ?_
   go_wp2
   go_ret
   exact ⟨rfl, rfl⟩
 ·rw [e1] at C1
  clear e1
  go_enter Tryz.func62, Tryz.ntmps62
  go_wp2_with fail
  refine Sm (C1.out _) ?_
  go_wp2
  go_ret
  exact ⟨rfl, rfl⟩
theorem Gy (x y : Nat) (w : World) : Cq 64 #[.float .f64 x, .float .f64 y] (.int .i64 (Iw x y)) w := by
 have C1 := Lh (fun W => Bv x W)
 have C2 := Lh (fun W => Bv y W)
 have h1 := Aba x y
 unfold Iw
 cases e1 : Ck x
 ·cases e2 : Ck y
  ·cases e3 : olt x y
   ·rw [e1] at C1; rw [e2] at C2; rw [e3] at h1
    clear e1 e2 e3
    go_enter Tryz.func64, Tryz.ntmps64
    go_wp2_with fail
    refine Sm (C1.out _) ?_
    go_wp2_with fail
    refine Sm (C2.out _) ?_
    go_wp2
    go_ret
    exact ⟨rfl, rfl⟩
   ·rw [e1] at C1; rw [e2] at C2; rw [e3] at h1
    clear e1 e2 e3
    go_enter Tryz.func64, Tryz.ntmps64
    go_wp2_with fail
    refine Sm (C1.out _) ?_
    go_wp2_with fail
    refine Sm (C2.out _) ?_
    go_wp2
    go_ret
    exact ⟨rfl, rfl⟩
  ·rw [e1] at C1; rw [e2] at C2
   clear e1 e2
   go_enter Tryz.func64, Tryz.ntmps64
   go_wp2_with fail
   refine Sm (C1.out _) ?_
   go_wp2_with fail
   refine Sm (C2.out _) ?_
   go_wp2
   go_ret
   exact ⟨rfl, rfl⟩
 ·rw [e1] at C1
  clear e1
  go_enter Tryz.func64, Tryz.ntmps64
  go_wp2_with fail
  refine Sm (C1.out _) ?_
  go_wp2
  go_ret
  exact ⟨rfl, rfl⟩
theorem Pf (x y : Nat) (w : World) : Cq 58 #[.float .f64 x, .float .f64 y] (.bool (oeq x y)) w := by
 go_enter Tryz.func58, Tryz.ntmps58
 go_wp2
 go_ret
 exact ⟨rfl, rfl⟩
theorem Gc (x y : Nat) (w : World) : Cq 60 #[.float .f64 x, .float .f64 y] (.bool (oeq x y)) w := by
 go_enter Tryz.func60, Tryz.ntmps60
 go_wp2
 go_ret
 exact ⟨rfl, rfl⟩
theorem Al3 (x y : Nat) : (FloatKind.f64.format.order x y == some .eq) = oeq x y := rfl
theorem Ac9 (x y : Nat) (w : World) (hx : x < 18446744073709551616) (hy : y < 18446744073709551616) : Cq 65 #[.float .f64 x, .float .f64 y] (.bool (Hq x y)) w := by
 have C1 := Lh (fun W => Bv x W)
 have C2 := Lh (fun W => Bv y W)
 have C3 := Lh (fun W => Pf x y W)
 have C4 := Lh (fun W => Hp x W hx)
 have C5 := Lh (fun W => Hp y W hy)
 unfold Hq
 cases e1 : Ck x
 ·rw [e1] at C1
  cases e3 : oeq x y
  ·rw [e3] at C3
   clear e1 e3 hx hy
   go_enter Tryz.func65, Tryz.ntmps65
   go_wp2_with fail
   refine Sm (C1.out _) ?_
   go_wp2_with fail
   refine Sm (C3.out _) ?_
   go_wp2
   go_ret
   exact ⟨rfl, rfl⟩
  ·rw [e3] at C3
   clear e1 e3 hx hy
   go_enter Tryz.func65, Tryz.ntmps65
   go_wp2_with fail
   refine Sm (C1.out _) ?_
   go_wp2_with fail
   refine Sm (C3.out _) ?_
   go_wp2_with fail
   refine Sm (C4.out _) ?_
   go_wp2_with fail
   refine Sm (C5.out _) ?_
   go_wp2
   go_ret
   exact ⟨rfl, rfl⟩
 ·rw [e1] at C1
  rw [Abb (by rw [e1]; rfl)]
  clear e1 hx hy
  go_enter Tryz.func65, Tryz.ntmps65
  go_wp2_with fail
  refine Sm (C1.out _) ?_
  go_wp2_with fail
  refine Sm (C2.out _) ?_
  go_wp2
  go_ret
  exact ⟨by simp, rfl⟩
theorem Aev (x y : Nat) (w : World) (hx : x < 18446744073709551616) (hy : y < 18446744073709551616) : Cq 66 #[.float .f64 x, .float .f64 y] (.bool (Hq x y)) w := by
 have C1 := Lh (fun W => Bv x W)
 have C2 := Lh (fun W => Bv y W)
 have C4 := Lh (fun W => Hp x W hx)
 have C5 := Lh (fun W => Hp y W hy)
 have h1 := Al3 x y
 have key : ∀ a : Bool, Ck x = a → (a = false ∨ Ck y = false) → Cq 66 #[.float .f64 x, .float .f64 y] (.bool (oeq x y && (Cd x == Cd y))) w := by
  intro a e1 e2
  cases e3 : oeq x y
  ·rw [e3] at h1
   cases a
   ·rw [e1] at C1
    clear e1 e3 hx hy e2
    go_enter Tryz.func66, Tryz.ntmps66
    go_wp2_with fail
    refine Sm (C1.out _) ?_
    go_wp2
    go_ret
    exact ⟨rfl, rfl⟩
   ·rw [e1] at C1
    rw [e2.resolve_left (by simp)] at C2
    clear e1 e3 hx hy e2
    go_enter Tryz.func66, Tryz.ntmps66
    go_wp2_with fail
    refine Sm (C1.out _) ?_
    go_wp2_with fail
    refine Sm (C2.out _) ?_
    go_wp2
    go_ret
    exact ⟨rfl, rfl⟩
  ·cases a
   ·rw [e1] at C1
    rw [e3] at h1
    clear e1 e3 hx hy e2
    go_enter Tryz.func66, Tryz.ntmps66
    go_wp2_with fail
    refine Sm (C1.out _) ?_
    go_wp2_with fail
    refine Sm (C4.out _) ?_
    go_wp2_with fail
    refine Sm (C5.out _) ?_
    go_wp2
    go_ret
    exact ⟨rfl, rfl⟩
   ·rw [Abb (by rw [e1]; rfl)] at e3; cases e3
 unfold Hq
 cases e1 : Ck x
 ·exact key false e1 (.inl rfl)
 ·cases e2 : Ck y
  ·exact key true e1 (.inr e2)
  ·rw [e1] at C1; rw [e2] at C2
   clear e1 e2 key hx hy
   go_enter Tryz.func66, Tryz.ntmps66
   go_wp2_with fail
   refine Sm (C1.out _) ?_
   go_wp2_with fail
   refine Sm (C2.out _) ?_
   go_wp2
   go_ret
   exact ⟨rfl, rfl⟩
end
section
structure Val where
 vk : Int
 vb : Bool
 vn : Nat
 vs : ByteArray
 vo : Int
def Am (v : Val) : Value := .agg #[.int .i64 v.vk, .bool v.vb, .float .f64 v.vn, .string v.vs, .int .i64 v.vo]
def Ao2 : Val := ⟨0, false, 0, ⟨#[]⟩, 0⟩
def Ai4 : Val := ⟨1, false, 0, ⟨#[]⟩, 0⟩
def Ao1 (b : Bool) : Val := ⟨2, b, 0, ⟨#[]⟩, 0⟩
def Px (n : Nat) : Val := ⟨3, false, n, ⟨#[]⟩, 0⟩
def Jz (s : ByteArray) : Val := ⟨4, false, 0, s, 0⟩
def Ao4 (o : Int) : Val := ⟨5, false, 0, ⟨#[]⟩, o⟩
def Ba (v : Val) : Bool :=
 decide (0 ≤ v.vk) && decide (v.vk ≤ 5) && (!v.vb || v.vk == 2) && (v.vn == 0 || (v.vk == 3 && cn v.vn == v.vn)) &&
  (v.vs.toList.isEmpty || (v.vk == 4 && v.vs.size % 2 == 0)) && (v.vo == 0 || (v.vk == 5 && decide (0 < v.vo)))
theorem Aax {s : ByteArray} (h : s.toList.isEmpty = true) : s = ⟨#[]⟩ := by
 rw [ByteArray.toList_eq] at h
 obtain ⟨⟨l⟩⟩ := s
 cases l with
 | nil => rfl
 | cons a l => simp at h
theorem Eq {v : Val} (h : Ba v = true) :
  v = Ao2 ∨ v = Ai4 ∨ (∃ b, v = Ao1 b) ∨ (∃ n, cn n = n ∧ v = Px n) ∨ (∃ s, s.size % 2 = 0 ∧ v = Jz s) ∨ (∃ o, 0 ≤ o ∧ v = Ao4 o) := by
 obtain ⟨k, b, n, s, o⟩ := v
 unfold Ba at h
 simp only [Bool.and_eq_true, Bool.or_eq_true, Bool.not_eq_true', decide_eq_true_iff, beq_iff_eq] at h
 obtain ⟨⟨⟨⟨⟨h0, h1⟩, hb⟩, hn⟩, hs⟩, ho⟩ := h
 have hk : k = 0 ∨ k = 1 ∨ k = 2 ∨ k = 3 ∨ k = 4 ∨ k = 5 := by omega
 have hs' : s = ⟨#[]⟩ ∨ (k = 4 ∧ s.size % 2 = 0) := hs.imp Aax id
 rcases hk with rfl | rfl | rfl | rfl | rfl | rfl
 ·obtain rfl : b = false := hb.resolve_right (by omega)
  obtain rfl : n = 0 := hn.resolve_right (by omega)
  obtain rfl := hs'.resolve_right (by omega)
  obtain rfl : o = 0 := ho.resolve_right (by omega)
  exact .inl rfl
 ·obtain rfl : b = false := hb.resolve_right (by omega)
  obtain rfl : n = 0 := hn.resolve_right (by omega)
  obtain rfl := hs'.resolve_right (by omega)
  obtain rfl : o = 0 := ho.resolve_right (by omega)
  exact .inr (.inl rfl)
 ·obtain rfl : n = 0 := hn.resolve_right (by omega)
  obtain rfl := hs'.resolve_right (by omega)
  obtain rfl : o = 0 := ho.resolve_right (by omega)
  exact .inr (.inr (.inl ⟨b, rfl⟩))
 ·obtain rfl : b = false := hb.resolve_right (by omega)
  obtain rfl := hs'.resolve_right (by omega)
  obtain rfl : o = 0 := ho.resolve_right (by omega)
  refine .inr (.inr (.inr (.inl ⟨n, ?_, rfl⟩)))
  rcases hn with rfl | hn
  ·decide
  ·exact hn.2
 ·obtain rfl : b = false := hb.resolve_right (by omega)
  obtain rfl : n = 0 := hn.resolve_right (by omega)
  obtain rfl : o = 0 := ho.resolve_right (by omega)
  refine .inr (.inr (.inr (.inr (.inl ⟨s, ?_, rfl⟩))))
  rcases hs' with rfl | hs
  ·rfl
  ·exact hs.2
 ·obtain rfl : b = false := hb.resolve_right (by omega)
  obtain rfl : n = 0 := hn.resolve_right (by omega)
  obtain rfl := hs'.resolve_right (by omega)
  refine .inr (.inr (.inr (.inr (.inr ⟨o, ?_, rfl⟩))))
  rcases ho with rfl | ho
  ·omega
  ·omega
def Ga (x y : Val) : Bool := x.vb == y.vb && x.vs.toList == y.vs.toList && x.vo == y.vo
def Dy (x y : Val) : Bool := x.vk == y.vk && Ga x y && oeq x.vn y.vn
def Ny (x y : Val) : Bool := x.vk == y.vk && Ga x y && Hq x.vn y.vn
end
section
def Ai : List Value → Nat → Value → List Value
 | [], _, _ => []
 | _ :: r, 0, v => v :: r
 | a :: r, n + 1, v => a :: Ai r n v
theorem Ab6 : ∀ (l : List Value) (k : Nat) (v : Value), l.set k v = Ai l k v
 | [], _, _ => rfl
 | _ :: _, 0, _ => rfl
 | a :: r, n + 1, v => by rw [List.set_cons_succ, Ab6 r n v]; rfl
theorem Amt (l : List Value) (d : List Deferred) (k : Nat) (v : Value) : Act.put { tmps := l.toArray, defers := d } (some k) v = { tmps := (Ai l k v).toArray, defers := d } := by
 simp [Act.put, Ab6]
theorem Ud {P : Program} {md : Region.Mode} {ops : Array Oper} {Q : Exit → Act → World → Prop} {S : World → Prop} {i k fuel : Nat} {oi : Oper} {v : Value} {listed : Array Bool} {l : List Value} {d : List Deferred} {w : World}
  (hi : ops[i]? = some oi) (hs : Region.noSelect ops = true) (hf : Region.free md ops listed i = true) (hr : (Region.ready md ops listed).contains i = true)
  (hQ : ∀ c a w, Q (.panic c) (a.put oi.dst v) w → Q (.panic c) a w) (hy : YieldsIf P ops S oi v { tmps := l.toArray, defers := d }) (hd : oi.dst = some k) (hS : S w)
  (h : wpAnyH P md ops Q S fuel (listed.setIfInBounds i true) { tmps := (Ai l k v).toArray, defers := d } w) : wpAnyH P md ops Q S (fuel + 1) listed { tmps := l.toArray, defers := d } w :=
 wpAnyH_take hi hs hf hr hQ hy hS (by rw [hd, Amt]; exact h)
theorem Tk {P : Program} {md : Region.Mode} {ops : Array Oper} {Q : Exit → Act → World → Prop} {S : World → Prop} (i : Nat) {k fuel : Nat} {oi : Oper} {v : Value} {listed : Array Bool} {l : List Value} {d : List Deferred} {w : World} (hi : ops[i]? = some oi) (hd : oi.dst = some k) (hy : YieldsIf P ops S oi v { tmps := l.toArray, defers := d }) (h : wpAnyH P md ops Q S fuel (listed.setIfInBounds i true) { tmps := (Ai l k v).toArray, defers := d } w) (hs : Region.noSelect ops = true := by kernel_rfl) (hf : Region.free md ops listed i = true := by kernel_rfl) (hr : (Region.ready md ops listed).contains i = true := by kernel_rfl) (hQ : ∀ c a w, Q (.panic c) (a.put oi.dst v) w → Q (.panic c) a w := by exact fun _ _ _ h => h) (hS : S w := by assumption) : wpAnyH P md ops Q S (fuel + 1) listed { tmps := l.toArray, defers := d } w := Ud hi hs hf hr hQ hy hd hS h
theorem Tg {P : Program} {md : Region.Mode} {ops : Array Oper} {Q : Exit → Act → World → Prop} {S : World → Prop} (i : Nat) {k fuel : Nat} {oi : Oper} {v : Value} {listed : Array Bool} {l : List Value} {d : List Deferred} {w : World} (hi : ops[i]? = some oi) (hd : oi.dst = some k) (h : wpAnyH P md ops Q S fuel (listed.setIfInBounds i true) { tmps := (Ai l k v).toArray, defers := d } w) (hy : YieldsIf P ops S oi v { tmps := l.toArray, defers := d } := by exact Or.inl ⟨by rfl, by (intro w hSw; go_simp; try with_reducible rfl)⟩) (hs : Region.noSelect ops = true := by kernel_rfl) (hf : Region.free md ops listed i = true := by kernel_rfl) (hr : (Region.ready md ops listed).contains i = true := by kernel_rfl) (hQ : ∀ c a w, Q (.panic c) (a.put oi.dst v) w → Q (.panic c) a w := by exact fun _ _ _ h => h) (hS : S w := by assumption) : wpAnyH P md ops Q S (fuel + 1) listed { tmps := l.toArray, defers := d } w := Ud hi hs hf hr hQ hy hd hS h
theorem Th {P : Program} {md : Region.Mode} {ops : Array Oper} {Q : Exit → Act → World → Prop} {S : World → Prop} (i : Nat) {k fuel : Nat} {oi : Oper} {v : Value} {listed : Array Bool} {l : List Value} {d : List Deferred} {w : World} (hi : ops[i]? = some oi) (hd : oi.dst = some k) (h : wpAnyH P md ops Q S fuel (listed.setIfInBounds i true) { tmps := (Ai l k v).toArray, defers := d } w) (hy : YieldsIf P ops S oi v { tmps := l.toArray, defers := d } := by exact Or.inl ⟨by rfl, by (intro w hSw; (try dsimp only at hSw); go_simp; try with_reducible rfl)⟩) (hs : Region.noSelect ops = true := by kernel_rfl) (hf : Region.free md ops listed i = true := by kernel_rfl) (hr : (Region.ready md ops listed).contains i = true := by kernel_rfl) (hQ : ∀ c a w, Q (.panic c) (a.put oi.dst v) w → Q (.panic c) a w := by exact fun _ _ _ h => h) (hS : S w := by assumption) : wpAnyH P md ops Q S (fuel + 1) listed { tmps := l.toArray, defers := d } w := Ud hi hs hf hr hQ hy hd hS h
theorem Tn {P : Program} {md : Region.Mode} {ops : Array Oper} {Q : Exit → Act → World → Prop} {S : World → Prop} (i : Nat) {k fuel : Nat} {oi : Oper} {v : Value} {listed : Array Bool} {l : List Value} {d : List Deferred} {w : World} (hi : ops[i]? = some oi) (hd : oi.dst = some k) (h : wpAnyH P md ops Q S fuel (listed.setIfInBounds i true) { tmps := (Ai l k v).toArray, defers := d } w) (hy : YieldsIf P ops S oi v { tmps := l.toArray, defers := d } := by exact Or.inr ⟨by rfl, rfl⟩) (hs : Region.noSelect ops = true := by kernel_rfl) (hf : Region.free md ops listed i = true := by kernel_rfl) (hr : (Region.ready md ops listed).contains i = true := by kernel_rfl) (hQ : ∀ c a w, Q (.panic c) (a.put oi.dst v) w → Q (.panic c) a w := by exact fun _ _ _ h => h) (hS : S w := by assumption) : wpAnyH P md ops Q S (fuel + 1) listed { tmps := l.toArray, defers := d } w := Ud hi hs hf hr hQ hy hd hS h
theorem Iz {P : Program} {md : Region.Mode} {ops : Array Oper} {Q : Exit → Act → World → Prop} {S : World → Prop} {i k fuel : Nat} {oi : Oper} {listed : Array Bool} {l : List Value} {d : List Deferred} {w : World}
  (hr : Region.ready md ops listed = [i]) (hi : ops[i]? = some oi) (hd : oi.dst = some k) (hw : Region.wanted oi (yielded ops l.toArray) = true)
  (h : ∀ K : Act → World → Prop, Hid (∀ v w', S w' → wpAnyH P md ops Q S fuel (listed.setIfInBounds i true) { tmps := (Ai l k v).toArray, defers := d } w' → K (Act.put { tmps := l.toArray, defers := d } oi.dst v) w') → Oper.wp P oi { tmps := l.toArray, defers := d } w K Q) :
  wpAnyH P md ops Q S (fuel + 1) listed { tmps := l.toArray, defers := d } w :=
 wpAnyH_ready hr (by simp) (AllReadyH.cons hi (fun K hK => by
  rw [if_pos hw]
  refine h K (Lh fun v w' hS hW => ?_)
  refine hK.out _ _ hS (fun _ => ?_)
  rw [hd, Amt]
  exact hW) AllReadyH.nil)
theorem As (w : World) (a : Obj) : Below w.heap.size w (w.alloc a) := (Below.refl _ _).alloc (Nat.le_refl _) _
theorem Jy (w : World) (a b : Obj) : Below w.heap.size w ((w.alloc a).alloc b) := (As w a).alloc (by simp) _
theorem Jw (n m : Nat) : ((n : Int) == (m : Int)) = (n == m) := by
 rw [Bool.eq_iff_iff, beq_iff_eq, beq_iff_eq]
 omega
theorem kept {W w' : World} (h : Below W.heap.size W w') (a : Addr) (v : Value) (hc : W.cell? a = some v) : w'.cell? a = some v := by
 rw [← hc]
 refine h.cell ?_
 rcases Nat.lt_or_ge a.block W.heap.size with h' | h'
 ·exact h'
 ·simp [World.cell?, Array.getElem?_eq_none h'] at hc
theorem Qt {B g : Nat} {a w : World} (h : Below B a w) (hg : B ≤ g) (c : Array Value) : Below B a (w.setRow g c) :=
 ⟨h.os, h.tape, h.output, by rw [setRow_size]; exact h.size, fun k hk => (setRow_other w g k c (by omega)).trans (h.block k hk)⟩
theorem Q0 {fn : Func} {p : Tmp} {ty : TypeId} (h : fn.results = #[.cell p ty]) (tmps : Array Value) (P : Program) (w : World) (a : Addr) (v : Value) (ha : tmps.getD p undef = .pointer (some a)) (hl : (loadVar ty a).run P w = .ok v w) :
  (results fn tmps).run P w = .ok v w := by
 simp only [results, h]
 simp [-Array.getD_eq_getD_getElem?, ha, asAddr, hl]
theorem Pg {fn : Func} {p t : Tmp} {ty : TypeId} (h : fn.results = #[.cell p ty, .tmp t]) (tmps : Array Value) (P : Program) (w : World) (a : Addr) (v : Value) (ha : tmps.getD p undef = .pointer (some a)) (hl : (loadVar ty a).run P w = .ok v w) :
  (results fn tmps).run P w = .ok (.tuple #[v, tmps.getD t undef]) w := by
 simp only [results, h]
 simp [-Array.getD_eq_getD_getElem?, ha, asAddr, hl]
def Af (v : Val) : Array Value := #[.int .i64 v.vk, .bool v.vb, .float .f64 v.vn, .string v.vs, .int .i64 v.vo]
theorem vlS {ops : Array Oper} {rest : List Oper} {o : Oper} {a : Act} {w : World} {Q : Exit → Act → World → Prop} {x y : Operand} (hgd : o.guard = none) (ho : o.op = .store 24 x y) (g : Nat) (k : Int) (b : Bool) (n : Nat) (s : ByteArray) (q : Int)
  (hx : a.eval x = .pointer (some ⟨g, 0, none⟩)) (hy : a.eval y = .agg #[.int .i64 k, .bool b, .float .f64 n, .string s, .int .i64 q])
  (hg : w.heap[g]? = some (.cells #[.int .i64 0, .bool false, .float .f64 0, .string ⟨#[]⟩, .int .i64 0] 24 (0, 0)))
  (h : wpList Tryz.prog ops Q rest (a.put o.dst undef) (w.setRow g #[.int .i64 k, .bool b, .float .f64 n, .string s, .int .i64 q])) : wpList Tryz.prog ops Q (o :: rest) a w :=
 wpList_store_row hgd 24 x y ho g _ hx hy 24 _ hg (by kernel_rfl) rfl (by kernel_rfl) h
theorem vlR {fn : Func} {p : Tmp} {R : Ending → World → Prop} {a : Act} {w : World} {g : Nat} {c : Array Value} (hr : fn.results = #[.cell p 24]) (ha : a.tmps.getD p undef = .pointer (some ⟨g, 0, none⟩))
  (hG : w.heap[g]? = some (.cells c 24 (0, 0))) (hc : c.size = 5) (hd : a.defers = []) (hR : R (.returned (.agg c)) w) : bodyPost Tryz.prog fn R .ret a w :=
 bodyPost_ret (Q0 hr _ _ _ _ _ ha (run_loadVar_row _ g 24 24 _ (0, 0) _ hG Tryz.underlying24 rfl (by rw [hc]; kernel_rfl))) hd hR
theorem Aem {fn : Func} {p t : Tmp} {R : Ending → World → Prop} {a : Act} {w : World} {g : Nat} {c : Array Value} (hr : fn.results = #[.cell p 24, .tmp t]) (ha : a.tmps.getD p undef = .pointer (some ⟨g, 0, none⟩))
  (hG : w.heap[g]? = some (.cells c 24 (0, 0))) (hc : c.size = 5) (hd : a.defers = []) (hR : R (.returned (.tuple #[.agg c, a.tmps.getD t undef])) w) : bodyPost Tryz.prog fn R .ret a w :=
 bodyPost_ret (Pg hr _ _ _ _ _ ha (run_loadVar_row _ g 24 24 _ (0, 0) _ hG Tryz.underlying24 rfl (by rw [hc]; kernel_rfl))) hd hR
end
section
theorem No (x y : Val) (w : World) : Ct 44 #[Am x, Am y] (.bool (Ga x y)) w := by
 unfold Ga Am
 obtain ⟨k, b, n, s, o⟩ := x
 obtain ⟨k', b', n', s', o'⟩ := y
 dsimp only
 obtain ⟨B, hB⟩ : ∃ B, (b == b') = B := ⟨_, rfl⟩
 obtain ⟨S, hS⟩ : ∃ B, (s.toList == s'.toList) = B := ⟨_, rfl⟩
 obtain ⟨O, hO⟩ : ∃ B, (o == o') = B := ⟨_, rfl⟩
 rw [hB, hS, hO]
 go_enter Tryz.func44, Tryz.ntmps44
 go_wp2
 all_goals go_ret
 all_goals refine ⟨?_, Jy _ _ _⟩
 all_goals simp [*]
theorem Xu (x y : Val) (w : World) : Cp 44 #[Am x, Am y] w fun e w' => e = .returned (.bool (Ga x y)) ∧ Below w.heap.size w w' ∧ ∀ a v, w.cell? a = some v → w'.cell? a = some v :=
 (No x y w).mono fun _ _ ⟨a, b⟩ => ⟨a, b, kept b⟩
theorem Us (w : World) : Cq 46 #[] (.float .f64 9221120237041090560) w := by
 have h2 : (callFunc 69 #[.int .u64 9221120237041090560]).run Tryz.prog w = .ok (.value (.float .f64 9221120237041090560)) w := Ca 9221120237041090560 w
 go_enter Tryz.func46, Tryz.ntmps46
 go_wp2
 go_ret
 exact ⟨rfl, rfl⟩
theorem Uo (x : Nat) (w : World) : Ct 16 #[.float .f64 x] (Am (Px (cn x))) w := by
 have C1 := Lh (fun W => Bv x W)
 have C2 := Lh (fun W => Us W)
 unfold cn
 cases e1 : Ck x
 ·rw [e1] at C1
  rw [if_neg (by simp)]
  clear e1 C2
  go_enter Tryz.func16, Tryz.ntmps16
  go_wp2_with fail
  refine Sm (C1.out _) ?_
  go_wp2_with (refine vlS rfl rfl w.heap.size 3 false x ⟨#[]⟩ 0 rfl rfl (heap_alloc_last w _) ?_; rw [World.setRow_alloc_new])
  refine vlR rfl rfl (heap_alloc_last w _) rfl rfl ⟨rfl, As _ _⟩
 ·rw [e1] at C1
  rw [if_pos rfl]
  clear e1
  go_enter Tryz.func16, Tryz.ntmps16
  go_wp2_with fail
  refine Sm (C1.out _) ?_
  go_wp2_with fail
  refine Sm (C2.out _) ?_
  go_wp2_with (refine vlS rfl rfl w.heap.size 3 false 9221120237041090560 ⟨#[]⟩ 0 rfl rfl (heap_alloc_last w _) ?_; rw [World.setRow_alloc_new])
  refine vlR rfl rfl (heap_alloc_last w _) rfl rfl ⟨rfl, As _ _⟩
end
section
theorem Ka (x : Nat) (w : World) : Cp 16 #[.float .f64 x] w fun e w' => e = .returned (.agg #[.int .i64 3, .bool false, .float .f64 (cn x), .string ⟨#[]⟩, .int .i64 0]) ∧ Below w.heap.size w w' ∧ ∀ a v, w.cell? a = some v → w'.cell? a = some v :=
 (Uo x w).mono fun _ _ ⟨a, b⟩ => ⟨a, b, kept b⟩
theorem Akd (n : Nat) : ((n : Int) % 2 == 0) = (n % 2 == 0) := by
 rw [Bool.eq_iff_iff, beq_iff_eq, beq_iff_eq]
 omega
theorem Amo (k : Int) (b : Bool) (n : Nat) (s : ByteArray) (o : Int) (W : World) : (Instr.field 24 (.agg #[.int .i64 k, .bool b, .float .f64 n, .string s, .int .i64 o]) 2).run Tryz.prog W = .ok (.float .f64 n) W := by
 unfold Instr.field
 simp [go_sem, asAgg]
theorem Aoq {W : World} {g : Nat} {a b c d e : Value} {T : TypeId} {f : Nat × Nat} (h : W.heap[g]? = some (.cells #[a, b, c, d, e] T f)) :
  W.cell? ⟨g, 0, none⟩ = some a ∧ W.cell? ⟨g, 1, none⟩ = some b ∧ W.cell? ⟨g, 2, none⟩ = some c ∧ W.cell? ⟨g, 3, none⟩ = some d ∧ W.cell? ⟨g, 4, none⟩ = some e := by
 simp [World.cell?, h]
theorem Ao8 {w W1 : World} {a b c d e : Value} {T : TypeId} (h : w.alloc (.cells #[a, b, c, d, e] T) = W1) :
  W1.cell? ⟨w.heap.size, 0, none⟩ = some a ∧ W1.cell? ⟨w.heap.size, 1, none⟩ = some b ∧ W1.cell? ⟨w.heap.size, 2, none⟩ = some c ∧ W1.cell? ⟨w.heap.size, 3, none⟩ = some d ∧ W1.cell? ⟨w.heap.size, 4, none⟩ = some e := by
 subst h
 exact Aoq (heap_alloc_last _ _)
theorem Gz (v : Val) (w : World) : Ct 21 #[Am v] (.bool (Ba v)) w := by
 have C2 := Lh (fun W => Ka v.vn W)
 have h1 := fun W => Cb v.vn W
 have h2 := fun W => Cb (cn v.vn) W
 unfold Ba
 obtain ⟨k, b, n, s, o⟩ := v
 unfold Am
 dsimp only at C2 h1 h2 ⊢
 obtain ⟨P1, hP1⟩ : ∃ P, (!b || k == 2) = P := ⟨_, rfl⟩
 obtain ⟨P2, hP2⟩ : ∃ P, (n == 0 || (k == 3 && cn n == n)) = P := ⟨_, rfl⟩
 obtain ⟨P3, hP3⟩ : ∃ P, (s.toList.isEmpty || (k == 4 && s.size % 2 == 0)) = P := ⟨_, rfl⟩
 obtain ⟨P4, hP4⟩ : ∃ P, (o == 0 || (k == 5 && decide (0 < o))) = P := ⟨_, rfl⟩
 obtain ⟨A, hA⟩ : ∃ A, decide (0 ≤ k) = A := ⟨_, rfl⟩
 obtain ⟨B, hB⟩ : ∃ B, decide (k ≤ 5) = B := ⟨_, rfl⟩
 rw [hP1, hP2, hP3, hP4, hA, hB]
 have HA := Lh hA
 have HB5 := Lh hB
 clear hA hB
 have H1 := Lh hP1
 have H2 := Lh hP2
 have H3 := Lh hP3
 have H4 := Lh hP4
 clear hP1 hP2 hP3 hP4
 go_enter Tryz.func21, Tryz.ntmps21
 go_upto_region 1 with fail
 obtain ⟨W1, hW1⟩ : ∃ W1, w.alloc (.cells #[.int .i64 k, .bool b, .float .f64 n, .string s, .int .i64 o] 24) = W1 := ⟨_, rfl⟩
 have HB := Lh (show Below w.heap.size w W1 by rw [← hW1]; exact As _ _)
 obtain ⟨c0, c1, c2, c3, c4⟩ := Ao8 hW1
 have hsz : w.heap.size < W1.heap.size := by rw [← hW1]; simp
 have hsz := Lh hsz
 rw [hW1]
 clear hW1
 generalize Value.agg #[.int .i64 k, .bool b, .float .f64 n, .string s, .int .i64 o] = X
 obtain ⟨g, hg⟩ : ∃ g, w.heap.size = g := ⟨_, rfl⟩
 rw [hg] at c0 c1 c2 c3 c4 HB hsz ⊢
 have HG := Lh hg
 clear hg
 go_cut [3] (fun c wx => c = .bool P1 ∧ W1 = wx)
 case first =>
  cases b
  ·go_wp2
   go_meet
   case rel => exact ⟨by rw [← H1.out]; rfl, rfl⟩
  ·obtain ⟨K, hK⟩ : ∃ K, (k == 2) = K := ⟨_, rfl⟩
   have e1 := Lh <| show K = P1 by rw [← H1.out, hK]; rfl
   go_wp2
   all_goals go_meet
   all_goals (case rel => exact ⟨by rw [← e1.out], rfl⟩)
 case rest =>
  obtain ⟨rfl, rfl⟩ := hcut
  go_upto_region 2 with fail
  go_cut [4] (fun c wx => c = .bool P2 ∧ (∀ a v, W1.cell? a = some v → wx.cell? a = some v) ∧ Below W1.heap.size W1 wx)
  case first =>
   rcases Bool.eq_false_or_eq_true ((n : Int) == 0) with hN | hN
   ·have e2 := Lh <| show true = P2 by rw [← H2.out, ← Jw, show ((0 : Nat) : Int) = 0 from rfl, hN, Bool.true_or]
    refine wp_region_held_drew (S := (fun w' => w'.cell? ⟨g, 0, none⟩ = some (.int .i64 k) ∧ w'.cell? ⟨g, 2, none⟩ = some (.float .f64 n))) (by kernel_rfl) ?_ (fun hHeld => ?_)
    ·go_keep
    refine Th 0 rfl rfl ?_; simp only [Ai]
    refine Th 1 rfl rfl ?_; simp only [Ai]
    refine Th 2 rfl rfl ?_; simp only [Ai]
    refine Th 3 rfl rfl ?_; simp only [Ai]
    refine Th 4 rfl rfl ?_; simp only [Ai]
    refine Tn 5 rfl rfl ?_; simp only [Ai]
    refine Tn 6 rfl rfl ?_; simp only [Ai]
    refine Tn 7 rfl rfl ?_; simp only [Ai]
    refine Tn 8 rfl rfl ?_; simp only [Ai]
    refine Tn 9 rfl rfl ?_; simp only [Ai]
    refine Tn 10 rfl rfl ?_; simp only [Ai]
    refine Tn 11 rfl rfl ?_; simp only [Ai]
    refine Tn 12 rfl rfl ?_; simp only [Ai]
    refine Tn 13 rfl rfl ?_; simp only [Ai]
    refine Tn 14 rfl rfl ?_; simp only [Ai]
    refine Tn 15 rfl rfl ?_; simp only [Ai]
    refine Tn 16 rfl rfl ?_; simp only [Ai]
    refine Tn 17 rfl rfl ?_; simp only [Ai]
    refine Tn 18 rfl rfl ?_; simp only [Ai]
    refine Th 19 rfl rfl ?_; simp only [Ai]
    refine Th 20 rfl rfl ?_; simp only [Ai]
    refine wpAnyH_done (by kernel_rfl) ?_ _
    go_wp2
    go_meet
    case rel => exact ⟨by rw [← e2.out], fun _ _ h => h, Ad (Below.refl _ _) _⟩
   ·rcases Bool.eq_false_or_eq_true (k == 3) with hK | hK
    ·obtain ⟨E, hE⟩ : ∃ E, ((cn n : Int) == (n : Int)) = E := ⟨_, rfl⟩
     have e2 := Lh <| show E = P2 by rw [← H2.out, ← Jw n, ← Jw, show ((0 : Nat) : Int) = 0 from rfl, hN, hK, hE, Bool.false_or, Bool.true_and]
     have hf := fun W => Amo 3 false (cn n) ⟨#[]⟩ 0 W
     refine wp_region_held_drew (S := (fun w' => w'.cell? ⟨g, 0, none⟩ = some (.int .i64 k) ∧ w'.cell? ⟨g, 2, none⟩ = some (.float .f64 n))) (by kernel_rfl) ?_ (fun hHeld => ?_)
     ·go_keep
     refine Th 0 rfl rfl ?_; simp only [Ai]
     refine Th 1 rfl rfl ?_; simp only [Ai]
     refine Th 2 rfl rfl ?_; simp only [Ai]
     refine Th 3 rfl rfl ?_; simp only [Ai]
     refine Th 4 rfl rfl ?_; simp only [Ai]
     refine Th 5 rfl rfl ?_; simp only [Ai]
     refine Th 6 rfl rfl ?_; simp only [Ai]
     refine Th 7 rfl rfl ?_; simp only [Ai]
     refine Th 8 rfl rfl ?_; simp only [Ai]
     refine Th 9 rfl rfl ?_; simp only [Ai]
     refine Th 10 rfl rfl ?_; simp only [Ai]
     refine Th 14 rfl rfl ?_; simp only [Ai]
     refine Th 15 rfl rfl ?_; simp only [Ai]
     refine Iz (i := 11) (by kernel_rfl) rfl rfl (by rfl) (fun K hK => ?_)
     go_simp
     with_reducible refine (C2.out _).mono ?_
     rintro e w2 ⟨rfl, b2, hk⟩
     have hHeld2 := hHeld; clear hHeld; have hHeld : (fun w' => w'.cell? ⟨g, 0, none⟩ = some (.int .i64 k) ∧ w'.cell? ⟨g, 2, none⟩ = some (.float .f64 n)) w2 := ⟨hk _ _ hHeld2.1, hk _ _ hHeld2.2⟩
     refine hK.out _ _ hHeld ?_; clear hK K hHeld2; simp only [Ai]
     refine Th 12 rfl rfl ?_; simp only [Ai]
     refine Th 13 rfl rfl ?_; simp only [Ai]
     refine Th 16 rfl rfl ?_; simp only [Ai]
     refine Th 17 rfl rfl ?_; simp only [Ai]
     refine Th 18 rfl rfl ?_; simp only [Ai]
     refine Th 19 rfl rfl ?_; simp only [Ai]
     refine Th 20 rfl rfl ?_; simp only [Ai]
     refine wpAnyH_done (by kernel_rfl) ?_ _
     go_wp2
     go_meet
     case rel => exact ⟨by rw [← e2.out], fun a v h => hk a v h, Aa (Ad (Below.refl _ _) _) b2⟩
    ·have e2 := Lh <| show false = P2 by rw [← H2.out, ← Jw n, show ((0 : Nat) : Int) = 0 from rfl, hN, hK]; rfl
     refine wp_region_held_drew (S := (fun w' => w'.cell? ⟨g, 0, none⟩ = some (.int .i64 k) ∧ w'.cell? ⟨g, 2, none⟩ = some (.float .f64 n))) (by kernel_rfl) ?_ (fun hHeld => ?_)
     ·go_keep
     refine Th 0 rfl rfl ?_; simp only [Ai]
     refine Th 1 rfl rfl ?_; simp only [Ai]
     refine Th 2 rfl rfl ?_; simp only [Ai]
     refine Th 3 rfl rfl ?_; simp only [Ai]
     refine Th 4 rfl rfl ?_; simp only [Ai]
     refine Th 5 rfl rfl ?_; simp only [Ai]
     refine Th 6 rfl rfl ?_; simp only [Ai]
     refine Th 7 rfl rfl ?_; simp only [Ai]
     refine Th 8 rfl rfl ?_; simp only [Ai]
     refine Tn 9 rfl rfl ?_; simp only [Ai]
     refine Tn 10 rfl rfl ?_; simp only [Ai]
     refine Tn 11 rfl rfl ?_; simp only [Ai]
     refine Tn 12 rfl rfl ?_; simp only [Ai]
     refine Tn 13 rfl rfl ?_; simp only [Ai]
     refine Tn 14 rfl rfl ?_; simp only [Ai]
     refine Tn 15 rfl rfl ?_; simp only [Ai]
     refine Tn 16 rfl rfl ?_; simp only [Ai]
     refine Tn 17 rfl rfl ?_; simp only [Ai]
     refine Th 18 rfl rfl ?_; simp only [Ai]
     refine Th 19 rfl rfl ?_; simp only [Ai]
     refine Th 20 rfl rfl ?_; simp only [Ai]
     refine wpAnyH_done (by kernel_rfl) ?_ _
     go_wp2
     go_meet
     case rel => exact ⟨by rw [← e2.out], fun _ _ h => h, Ad (Below.refl _ _) _⟩
  case rest =>
  obtain ⟨rfl, hk, hb⟩ := hcut
  have d0 := hk _ _ c0
  have d3 := hk _ _ c3
  have d4 := hk _ _ c4
  have HB2 := Lh (HB.out.trans (hb.mono (Nat.le_of_lt hsz.out)))
  clear hk hb c0 c1 c2 c3 c4 C2 h1 h2 H1 H2 HB
  generalize wc = W2 at *
  go_upto_region 3 with fail
  go_cut [5] (fun c wx => c = .bool P3 ∧ W2 = wx)
  case first =>
   rcases Bool.eq_false_or_eq_true s.toList.isEmpty with hN | hN
   ·have e2 := Lh <| show true = P3 by rw [← H3.out, hN, Bool.true_or]
    go_wp2
    all_goals go_meet
    all_goals (case rel => exact ⟨by rw [← e2.out], rfl⟩)
   ·rcases Bool.eq_false_or_eq_true (k == 4) with hK | hK
    ·obtain ⟨E, hE⟩ : ∃ E, ((s.size : Int) % 2 == 0) = E := ⟨_, rfl⟩
     have e2 := Lh <| show E = P3 by rw [← H3.out, hN, hK, ← hE, Akd, Bool.false_or, Bool.true_and]
     go_wp2
     all_goals go_meet
     all_goals (case rel => exact ⟨by rw [← e2.out], rfl⟩)
    ·have e2 := Lh <| show false = P3 by rw [← H3.out, hN, hK]; rfl
     go_wp2
     all_goals go_meet
     all_goals (case rel => exact ⟨by rw [← e2.out], rfl⟩)
  case rest =>
  obtain ⟨rfl, rfl⟩ := hcut
  go_upto_region 4 with fail
  go_cut [6] (fun c wx => c = .bool P4 ∧ W2 = wx)
  case first =>
   rcases Bool.eq_false_or_eq_true (o == 0) with hN | hN
   ·have e2 := Lh <| show true = P4 by rw [← H4.out, hN, Bool.true_or]
    go_wp2
    all_goals go_meet
    all_goals (case rel => exact ⟨by rw [← e2.out], rfl⟩)
   ·rcases Bool.eq_false_or_eq_true (k == 5) with hK | hK
    ·obtain ⟨E, hE⟩ : ∃ E, decide (0 < o) = E := ⟨_, rfl⟩
     have e2 := Lh <| show E = P4 by rw [← H4.out, hN, hK, hE, Bool.false_or, Bool.true_and]
     go_wp2
     all_goals go_meet
     all_goals (case rel => exact ⟨by rw [← e2.out], rfl⟩)
    ·have e2 := Lh <| show false = P4 by rw [← H4.out, hN, hK]; rfl
     go_wp2
     all_goals go_meet
     all_goals (case rel => exact ⟨by rw [← e2.out], rfl⟩)
  case rest =>
  obtain ⟨rfl, rfl⟩ := hcut
  generalize wc = W2 at *
  clear H3 H4 d3 d4 hsz
  have hA := HA.out
  have hB := HB5.out
  go_wp2
  all_goals go_ret
  all_goals refine ⟨?_, by rw [HG.out]; exact HB2.out⟩
  all_goals simp_all
end
section
theorem Kept.same {P : Program} {f : FuncId} {args : Array Value} {w : World} {X : Ending} (h : Calls P f args w fun e w' => e = X ∧ w = w') : Calls P f args w fun e w' => e = X ∧ Below w.heap.size w w' ∧ ∀ a v, w.cell? a = some v → w'.cell? a = some v :=
 h.mono fun _ _ ⟨a, b⟩ => ⟨a, by rw [← b]; exact Below.refl _ _, fun _ _ k => by rw [← b]; exact k⟩
theorem Adh (x y : Val) (w : World) (hx : x.vn < 18446744073709551616) (hy : y.vn < 18446744073709551616) : Ct 38 #[Am x, Am y] (.bool (Ny x y)) w := by
 have C1 := Lh (fun W => Xu x y W)
 have C2 := Lh (fun W => Kept.same (Aev x.vn y.vn W hx hy))
 unfold Ny
 obtain ⟨O, hO⟩ : ∃ B, Hq x.vn y.vn = B := ⟨_, rfl⟩
 obtain ⟨A, hA⟩ : ∃ B, Ga x y = B := ⟨_, rfl⟩
 obtain ⟨K, hK⟩ : ∃ B, (x.vk == y.vk) = B := ⟨_, rfl⟩
 rw [hO, hA, hK]
 rw [hA] at C1
 rw [hO] at C2
 clear hA hO hx hy
 obtain ⟨k, b, n, s, o⟩ := x
 obtain ⟨k', b', n', s', o'⟩ := y
 unfold Am at C1 ⊢
 dsimp only at C1 C2 hK ⊢
 cases K
 ·clear C1 C2
  go_enter Tryz.func38, Tryz.ntmps38
  go_wp2
  go_ret
  exact ⟨by simp, Jy _ _ _⟩
 ·cases A
  ·clear C2
   go_enter Tryz.func38, Tryz.ntmps38
   go_wp2_with fail
   refine (C1.out _).mono ?_
   rintro e w2 ⟨rfl, b2, hk⟩
   go_wp2
   go_ret
   exact ⟨by simp, Aa (Jy _ _ _) b2⟩
  ·skip
   go_enter Tryz.func38, Tryz.ntmps38
   go_wp2_with fail
   refine (C1.out _).mono ?_
   rintro e w2 ⟨rfl, b2, hk⟩
   have k0 := hk ⟨w.heap.size, 2, none⟩ (.float .f64 n) (by simp)
   have k1 := hk ⟨w.heap.size + 1, 2, none⟩ (.float .f64 n') (by simp)
   have B2 := Lh (Aa (Jy _ _ _) b2)
   clear hk b2
   go_wp2_with fail
   refine (C2.out _).mono ?_
   rintro e w3 ⟨rfl, b3, hk3⟩
   go_wp2
   go_ret
   exact ⟨by simp, Aa B2.out b3⟩
end
section
theorem Qe {P : Program} {ops : Array Oper} {rest : List Oper} {o : Oper} {a : Act} {w : World} {Q : Exit → Act → World → Prop} (hw : Region.wanted o (yielded ops a.tmps) = true) (h : o.wp P a w (wpList P ops Q rest) Q) : wpList P ops Q (o :: rest) a w := by
 unfold wpList
 rw [if_pos hw]
 exact .inl h
def BlkV (w : World) (g : Nat) (v : Val) : Prop := w.heap[g]? = some (.cells (Af v) 24 (0, 0))
theorem ldX {ops : Array Oper} {rest : List Oper} {o : Oper} {a : Act} {w : World} {Q : Exit → Act → World → Prop} {x : Operand} {g k : Nat} {v : Val} (hg : BlkV w g v) (hd : o.dst = some k) (hw : Region.wanted o (yielded ops a.tmps) = true) (ho : o.op = .load 24 x)
  (hx : a.eval x = .pointer (some ⟨g, 0, none⟩)) (h : wpList Tryz.prog ops Q rest (a.put (some k) (.agg (Af v))) w) : wpList Tryz.prog ops Q (o :: rest) a w := by
 refine Qe hw ?_
 unfold Oper.wp execOp
 simp only [ho, hx, Instr.loadAt, Instr.sureAddr, Sem.run_bind, Sem.run_pure, Result.andThen_ok, run_loadVar_row w g 24 24 (Af v) (0, 0) _ hg Tryz.underlying24 rfl (by kernel_rfl)]
 show wpList Tryz.prog ops Q rest (a.put o.dst (.agg (Af v))) w
 rw [hd]
 exact h
theorem Gh {o : Oper} {a : Act} {w : World} {x : Operand} {g : Nat} {v : Val} (hg : BlkV w g v) (ho : o.op = .load 24 x) (hx : a.eval x = .pointer (some ⟨g, 0, none⟩)) : (execOp a.eval o).run Tryz.prog w = .ok (.value (.agg (Af v))) w := by
 unfold execOp
 simp only [ho, hx, Instr.loadAt, Instr.sureAddr, Sem.run_bind, Sem.run_pure, Result.andThen_ok, run_loadVar_row w g 24 24 (Af v) (0, 0) _ hg Tryz.underlying24 rfl (by kernel_rfl)]
theorem BlkV.cell {w : World} {g k : Nat} {v : Val} {u : Value} (h : BlkV w g v) (hv : (Af v)[k]? = some u) : w.cell? ⟨g, k, none⟩ = some u := (cell_of_row w g k _ _ _ h).trans hv
theorem BlkV.below {w w' : World} {g B : Nat} {v : Val} (h : BlkV w g v) (hb : Below B w w') (hg : g < B) : BlkV w' g v := (hb.block g hg).trans h
theorem H0 {w W1 : World} {v : Val} (h : w.alloc (.cells (Af v) 24) = W1) : BlkV W1 w.heap.size v ∧ Below w.heap.size w W1 ∧ W1.heap.size = w.heap.size + 1 := by
 subst h
 exact ⟨heap_alloc_last _ _, As _ _, by simp⟩
structure T2 (w W : World) (x y : Val) : Prop where
 k : BlkV W w.heap.size x
 k2 : BlkV W (w.heap.size + 1) y
 l : w.heap.size + 1 < W.heap.size
 b : Below w.heap.size w W
theorem T2.new {w W1 W2 : World} {x y : Val} (h : w.alloc (.cells (Af x) 24) = W1) (g : W1.alloc (.cells (Af y) 24) = W2) : T2 w W2 x y := by
 obtain ⟨a, b, c⟩ := H0 h
 obtain ⟨a2, b2, c2⟩ := H0 g
 rw [c] at a2
 exact ⟨a.below b2 (by omega), a2, by omega, Aa b b2⟩
theorem T2.step {w W W' : World} {x y : Val} (h : T2 w W x y) (hb : Below W.heap.size W W') : T2 w W' x y :=
 ⟨h.k.below hb (by have := h.l; omega), h.k2.below hb h.l, Nat.lt_of_lt_of_le h.l hb.size, Aa h.b hb⟩
theorem T2.drew {w W : World} {x y : Val} (h : T2 w W x y) : T2 w W.drew x y := ⟨h.k, h.k2, h.l, Ad h.b 1⟩
theorem T2.cs {w W : World} {x y : Val} (h : T2 w W x y) : W.cell? ⟨w.heap.size, 0, none⟩ = some (.int .i64 x.vk) ∧ W.cell? ⟨w.heap.size, 1, none⟩ = some (.bool x.vb) ∧ W.cell? ⟨w.heap.size, 2, none⟩ = some (.float .f64 x.vn) ∧ W.cell? ⟨w.heap.size, 3, none⟩ = some (.string x.vs) ∧ W.cell? ⟨w.heap.size, 4, none⟩ = some (.int .i64 x.vo) ∧
  W.cell? ⟨w.heap.size + 1, 0, none⟩ = some (.int .i64 y.vk) ∧ W.cell? ⟨w.heap.size + 1, 1, none⟩ = some (.bool y.vb) ∧ W.cell? ⟨w.heap.size + 1, 2, none⟩ = some (.float .f64 y.vn) ∧ W.cell? ⟨w.heap.size + 1, 3, none⟩ = some (.string y.vs) ∧ W.cell? ⟨w.heap.size + 1, 4, none⟩ = some (.int .i64 y.vo) :=
 ⟨h.k.cell rfl, h.k.cell rfl, h.k.cell rfl, h.k.cell rfl, h.k.cell rfl, h.k2.cell rfl, h.k2.cell rfl, h.k2.cell rfl, h.k2.cell rfl, h.k2.cell rfl⟩
end
section
def uL : List UInt8 → List Nat
 | a :: b :: r => (a.toNat * 256 + b.toNat) :: uL r
 | _ => []
def bL (l : List Nat) : List UInt8 := l.flatMap fun u => [UInt8.ofNat (u / 256), UInt8.ofNat u]
theorem Rz : ∀ l : List UInt8, (uL l).length = l.length / 2
 | [] => rfl
 | [_] => by simp [uL]
 | a :: b :: r => by
  have := Rz r
  simp only [uL, List.length_cons, this]
  omega
theorem Aja : ∀ (l : List UInt8) (i : Nat) (h : 2 * i + 1 < l.length), (uL l)[i]? = some (l[2 * i].toNat * 256 + l[2 * i + 1].toNat)
 | [], i, h => by simp at h
 | [_], i, h => by simp at h
 | a :: b :: r, 0, _ => by simp [uL]
 | a :: b :: r, i + 1, h => by
  have := Aja r i (by simp at h; omega)
  simp only [uL, List.getElem?_cons_succ, this]
  rfl
theorem Amk : ∀ (l : List UInt8), ∀ u ∈ uL l, u < 65536
 | [], u, h => by simp [uL] at h
 | [_], u, h => by simp [uL] at h
 | a :: b :: r, u, h => by
  simp only [uL, List.mem_cons] at h
  rcases h with rfl | h
  ·have := a.toNat_lt; have := b.toNat_lt; omega
  ·exact Amk r u h
theorem M9 (u : Nat) (l : List Nat) : bL (u :: l) = UInt8.ofNat (u / 256) :: UInt8.ofNat u :: bL l := rfl
theorem Ru (l m : List Nat) : bL (l ++ m) = bL l ++ bL m := by simp [bL]
theorem Ag2 (u : Nat) : bL [u] = [UInt8.ofNat (u / 256), UInt8.ofNat u] := rfl
theorem Ie : ∀ l : List Nat, (bL l).length = 2 * l.length
 | [] => rfl
 | u :: r => by rw [M9]; simp [Ie r]; omega
theorem Ami : ∀ (l : List UInt8), bL (uL l) = l.take (2 * (l.length / 2))
 | [] => rfl
 | [_] => by simp [uL, bL]
 | a :: b :: r => by
  rw [uL, M9, Ami r]
  have e : 2 * ((a :: b :: r).length / 2) = 2 * (r.length / 2) + 1 + 1 := by simp; omega
  rw [e, List.take_succ_cons, List.take_succ_cons]
  have ha := a.toNat_lt; have hb := b.toNat_lt
  have e1 : (a.toNat * 256 + b.toNat) / 256 = a.toNat := by omega
  rw [e1]
  congr 1
  ·simp
  ·congr 1
   apply UInt8.toNat_inj.1
   simp
/-! ### of a Go string -/
def us (s : ByteArray) : List Nat := uL s.data.toList
def ln (s : ByteArray) : Nat := s.size / 2
def un (s : ByteArray) (i : Nat) : Nat := (us s).getD i 0
theorem Gp (s : ByteArray) : 2 * ln s ≤ s.size := by unfold ln; omega
theorem Fx (s : ByteArray) : (us s).length = ln s := by
 unfold us ln; rw [Rz, Go.Lib.size_eq]
theorem Ajf (s : ByteArray) : ∀ u ∈ us s, u < 65536 := Amk _
theorem Aoo (s : ByteArray) (i : Nat) (h : 2 * i + 1 < s.size) : un s i = (s[2 * i]'(by omega)).toNat * 256 + (s[2 * i + 1]'h).toNat := by
 have := Aja s.data.toList i (by rw [← Go.Lib.size_eq]; exact h)
 unfold un us
 rw [List.getD_eq_getElem?_getD, this]
 rfl
theorem Amq (s : ByteArray) (i : Nat) : un s i < 65536 := by
 unfold un
 rw [List.getD_eq_getElem?_getD]
 cases h : (us s)[i]? with
 | none => simp
 | some u => exact Ajf s u (List.mem_of_getElem? h)
theorem O1 (s : ByteArray) (i : Nat) (h : i < (us s).length) : (us s)[i] = un s i := by
 unfold un; rw [List.getD_eq_getElem?_getD, List.getElem?_eq_getElem h]; rfl
theorem J1 (s : ByteArray) (i : Nat) (h : i < ln s) : (us s).take (i + 1) = (us s).take i ++ [un s i] := by
 have h' : i < (us s).length := by rw [Fx]; exact h
 rw [List.take_succ_eq_append_getElem h', O1]
theorem Lu (s : ByteArray) : (us s).take (ln s) = us s := List.take_of_length_le (by rw [Fx]; exact Nat.le_refl _)
abbrev Bld (B : Nat) (l : List UInt8) (w : World) : Prop := Lib.IsBuilderF 79 5 B B (Lib.byteCells l) w
theorem Ah3 {B : Nat} {l : List UInt8} {w : World} (h : Bld B l w) : B < w.heap.size := by
 rcases h with h | h <;> exact Lib.BuilderAtF.lt h
theorem Sd (w : World) (o : Obj) : (w.alloc o).heap[w.heap.size]? = some o := by
 show (w.heap.push o)[w.heap.size]? = _
 rw [Array.getElem?_push, if_pos rfl]
theorem Ain (s : ByteArray) : (s.size : Int) / 2 = (ln s : Int) := by unfold ln; omega
theorem J4 (s : ByteArray) (w : World) (hs : s.size ≤ maxLen) : Cq 48 #[.string s] (.int .i64 (ln s)) w := by
 unfold maxLen at hs
 have hm : (s.size : Int) ≤ 9223372036854775807 := by omega
 go_enter Tryz.func48, Tryz.ntmps48
 go_wp2
 go_ret
 exact ⟨by rw [← Ain]; rfl, rfl⟩
theorem Gw (s : ByteArray) (w : World) (hs : s.size ≤ maxLen) : Cq 88 #[.string s] (.int .i64 (ln s)) w := by
 unfold maxLen at hs
 have hm : (s.size : Int) ≤ 9223372036854775807 := by omega
 go_enter Tryz.func88, Tryz.ntmps88
 go_wp2
 go_ret
 exact ⟨by rw [← Ain]; rfl, rfl⟩
theorem Ans (a b : Nat) (ha : a < 256) (hb : b < 256) : bits BinOp.or IntKind.u16 ((a : Int) * 256) (b : Int) = ((a * 256 + b : Nat) : Int) := by
 have e : ((a : Int) * 256) = ((a * 256 : Nat) : Int) := by omega
 rw [e, u16_or_nat _ _ (by omega) (by omega)]
 have := Nat.two_pow_add_eq_or_of_lt (i := 8) (b := b) (by omega) a
 rw [show a * 256 = 2 ^ 8 * a by omega, ← this]
theorem Vl (s : ByteArray) (i : Nat) (h0 : 2 * i < s.size) (h1 : 2 * i + 1 < s.size) :
  bits BinOp.or IntKind.u16 (IntKind.u16.wrap (IntKind.u16.wrap ((s[2 * i]'h0).toNat : Int) * 256)) (IntKind.u16.wrap ((s[2 * i + 1]'h1).toNat : Int)) = (un s i : Int) := by
 have c0 := (s[2 * i]'h0).toNat_lt
 have c1 := (s[2 * i + 1]'h1).toNat_lt
 rw [IntWalk.u16_in ((s[2 * i]'h0).toNat : Int) (by omega), IntWalk.u16_in (((s[2 * i]'h0).toNat : Int) * 256) (by omega), IntWalk.u16_in _ (by omega)]
 rw [Ans _ _ c0 c1, Aoo s i h1]
theorem Ni (s : ByteArray) (i : Nat) (w : World) (h : i < ln s) (hs : s.size ≤ maxLen) :
  Cp 94 #[.string s, .int .i64 i] w fun e w' => e = .returned (.int .u16 (un s i)) ∧ ∃ n, w' = w.drewN n := by
 unfold maxLen at hs
 have hl := Gp s
 have a0 : (0 : Int) ≤ 2 * (i : Int) := by omega
 have a1 : 2 * (i : Int) < (s.size : Int) := by omega
 have a2 : (0 : Int) ≤ 2 * (i : Int) + 1 := by omega
 have a3 : 2 * (i : Int) + 1 < (s.size : Int) := by omega
 have b0 : IntKind.i64.wrap (2 * (i : Int)) = 2 * (i : Int) := IntWalk.i64_in _ (by omega)
 have b1 : IntKind.i64.wrap (2 * (i : Int) + 1) = 2 * (i : Int) + 1 := IntWalk.i64_in _ (by omega)
 have b2 : (2 * (i : Int)).toNat = 2 * i := by omega
 have b3 : (2 * (i : Int) + 1).toNat = 2 * i + 1 := by omega
 have H := Lh (Vl s i (by omega) (by omega))
 clear hl
 go_enter Tryz.func94, Tryz.ntmps94
 go_wp2
 go_quiet (fail)
 go_wp2
 go_ret
 exact ⟨by rw [← H.out]; rfl, _, rfl⟩
theorem Ho (s : ByteArray) (i : Nat) (w : World) (h : i < ln s) (hs : s.size ≤ maxLen) :
  Cp 89 #[.string s, .int .i64 i] w fun e w' => e = .returned (.int .u16 (un s i)) ∧ ∃ n, w' = w.drewN n := by
 unfold maxLen at hs
 have hl := Gp s
 have a0 : (0 : Int) ≤ 2 * (i : Int) := by omega
 have a1 : 2 * (i : Int) < (s.size : Int) := by omega
 have a2 : (0 : Int) ≤ 2 * (i : Int) + 1 := by omega
 have a3 : 2 * (i : Int) + 1 < (s.size : Int) := by omega
 have b0 : IntKind.i64.wrap (2 * (i : Int)) = 2 * (i : Int) := IntWalk.i64_in _ (by omega)
 have b1 : IntKind.i64.wrap (2 * (i : Int) + 1) = 2 * (i : Int) + 1 := IntWalk.i64_in _ (by omega)
 have b2 : (2 * (i : Int)).toNat = 2 * i := by omega
 have b3 : (2 * (i : Int) + 1).toNat = 2 * i + 1 := by omega
 have H := Lh (Vl s i (by omega) (by omega))
 clear hl
 go_enter Tryz.func89, Tryz.ntmps89
 go_wp2
 go_quiet (fail)
 go_wp2
 go_ret
 exact ⟨by rw [← H.out]; rfl, _, rfl⟩
theorem Sn (l : List UInt8) (u : Nat) (hu : u < 65536) :
  Lib.byteCells (l ++ bL [u]) = (Lib.byteCells l ++ [Value.int .u8 ((u : Int) / 256)]) ++ [Value.int .u8 ((u : Int) % 256)] := by
 rw [Lib.byteCells_append, Ag2]
 simp [Lib.byteCells]
 omega
theorem Qr (B : Nat) (l : List UInt8) (u : Nat) (hu : u < 65536) (w : World) (h : Bld B l w) (hlen : l.length + 2 ≤ 140737488355328) (hBw : B ≤ w.heap.size) :
  Cp 81 #[.pointer (some ⟨B, 0, none⟩), .int .u16 u] w fun e w' => e = .returned (.tuple #[]) ∧ Bld B (l ++ bL [u]) w' ∧ Below B w w' := by
 have h1 : (Lib.byteCells l).length + 1 ≤ 140737488355328 := by rw [Lib.byteCells_length]; omega
 have h2 : ((Lib.byteCells l) ++ [Value.int .u8 ((u : Int) / 256)]).length + 1 ≤ 140737488355328 := by rw [List.length_append, Lib.byteCells_length]; simp; omega
 go_enter Tryz.func81, Tryz.ntmps81
 go_wp2_with fail
 refine (Tryz.Builder_WriteByte_k B B _ _ _ h h1 hBw).mono ?_
 rintro e w1 ⟨rfl, hb1, bl1, _⟩
 have hBw1 := Nat.le_trans hBw bl1.size
 go_wp2_with fail
 refine (Tryz.Builder_WriteByte_k B B _ _ _ (Or.inr hb1) h2 hBw1).mono ?_
 rintro e w2 ⟨rfl, hb2, bl2, _⟩
 go_wp2
 go_end0
 refine ⟨rfl, ?_, bl1.trans bl2⟩
 rw [Bld, Sn l u hu]
 exact Or.inr hb2
abbrev Own (B : Nat) (l : List UInt8) (v : Value) (w : World) : Prop := w.ownsRow B 5 1 v l.length (Lib.byteCells l)
theorem Aos : (Tryz.prog.info? 5).map (fun i => (i.zero, i.size, i.bytes)) = some (some (.int .u8 0), 1, 1) := by kernel_rfl
theorem Alk (u : Nat) (hu : u < 65536) : bits BinOp.and IntKind.u16 (u : Int) 255 % 256 = (u : Int) % 256 := by
 have := u16_and_nat u 255 hu (by omega)
 rw [show (255 : Int) = ((255 : Nat) : Int) from rfl, this]
 have h2 := Nat.and_two_pow_sub_one_eq_mod u 8
 rw [show (255 : Nat) = 2 ^ 8 - 1 from rfl, h2]
 omega
theorem Own.nil (B : Nat) (w : World) : Own B [] (.slice none 0 0) w := World.ownsRow_nil _ _ _ _
theorem Ak7 (B : Nat) (l : List UInt8) (v : Value) (u : Nat) (hu : u < 65536) (w : World) (h : Own B l v w) (hlen : l.length + 2 ≤ 140737488355328) (hBw : B ≤ w.heap.size) :
  Cp 68 #[v, .int .u16 u] w fun e w' => ∃ v', e = .returned v' ∧ Own B (l ++ bL [u]) v' w' ∧ Below B w w' := by
 obtain ⟨i0, hi, hz0, hz1, hz2⟩ := info_parts Aos
 have hA := Alk u hu
 go_enter Tryz.func68, Tryz.ntmps68
 go_wp2_with (at_builtin; refine wpList_append_own _ rfl _ _ 66 rfl B 5 i0 (.int .u8 0) 1 1 Tryz.underlying66 hi hz0 hz1 hz2 rfl (by decide) v l.length (Lib.byteCells l) rfl (h.alloc _) ⟨w.heap.size, 0, none⟩ 2 2 [.int .u8 ((u : Int) / 256), .int .u8 ((u : Int) % 256)] rfl rfl ?c1 ?c2 ?c3 ?c4 ?c5 ?_)
 case c1 => exact cell_two_new _ _ _ _
 case c2 => simp [Value.oneCell']
 case c3 => unfold maxLen; omega
 case c4 => omega
 case c5 => simp; omega
 intro v' w1 hown hg _
 go_wp2
 go_ret
 refine ⟨v', rfl, ?_, ((Below.refl B w).alloc hBw _).grown hg (by simp; omega) (fun k hk => (h.lt k hk).1)⟩
 rw [Own, Sn l u hu]
 simpa [Ag2] using hown
def spB (u : Int) : Bool := u == 9 || u == 11 || u == 12 || u == 32 || u == 160 || u == 5760 || u == 6158 || u == 8239 || u == 8287 || u == 12288 || u == 65279 || (decide (8192 ≤ u) && decide (u ≤ 8202))
def enB (u : Int) : Bool := u == 10 || u == 13 || u == 8232 || u == 8233
def blB (u : Int) : Bool := spB u || enB u
theorem Aec (u : Int) (w : World) : Cq 124 #[.int .u16 u] (.bool (spB u)) w := by
 go_enter Tryz.func124, Tryz.ntmps124
 go_wp2
 all_goals go_ret
 all_goals exact ⟨by simp [spB, *] <;> omega, rfl⟩
theorem Aay (u : Int) (w : World) : Cq 105 #[.int .u16 u] (.bool (spB u)) w := by
 go_enter Tryz.func105, Tryz.ntmps105
 go_wp2
 all_goals go_ret
 all_goals exact ⟨by simp [spB, *] <;> omega, rfl⟩
theorem Ahg (u : Int) (w : World) : Cq 125 #[.int .u16 u] (.bool (enB u)) w := by
 go_enter Tryz.func125, Tryz.ntmps125
 go_wp2
 all_goals go_ret
 all_goals exact ⟨by simp [enB, *], rfl⟩
theorem Aeq (u : Int) (w : World) : Cq 106 #[.int .u16 u] (.bool (enB u)) w := by
 go_enter Tryz.func106, Tryz.ntmps106
 go_wp2
 all_goals go_ret
 all_goals exact ⟨by simp [enB, *], rfl⟩
theorem Aex (u : Int) (w : World) : Cq 93 #[.int .u16 u] (.bool (blB u)) w := by
 go_enter Tryz.func93, Tryz.ntmps93
 go_wp2_with (first | (go_at_call 124; refine (Aec _ _).mono ?_; rintro e w' ⟨rfl, rfl⟩) | (go_at_call 125; refine (Ahg _ _).mono ?_; rintro e w' ⟨rfl, rfl⟩))
 all_goals go_ret
 all_goals exact ⟨by simp [blB, *], rfl⟩
theorem Z8 (ns : List UInt8) (s : ByteArray) : (ns.map fun b => (b.toNat : Int)).foldl (fun r n => r.push (UInt8.ofNat n.toNat)) s = ⟨s.data ++ ns.toArray⟩ := by
 induction ns generalizing s with
 | nil => simp
 | cons b r ih =>
  simp only [List.map_cons, List.foldl_cons, ih]
  apply ByteArray.ext
  simp [ByteArray.push]
theorem Pp {B : Nat} {l : List UInt8} {v : Value} {w : World} (h : Own B l v w) : (convert 66 9 v).run Tryz.prog w = .ok (.string ⟨l.toArray⟩) w := by
 rcases h.2 with ⟨rfl, hn⟩ | ⟨g, cap, cur, rfl, hB, hg, hcap, hmax, hcur, htk⟩
 ·have : l = [] := List.eq_nil_of_length_eq_zero hn
  subst this
  rfl
 ·have hc := h.cells (g := g) rfl
  rw [run_convert_bytes_string w 66 9 5 _ _ _ Tryz.underlying66 Tryz.underlying5 Tryz.underlying9]
  have hl := run_loadCells_list (P := Tryz.prog) w ⟨g, 0, none⟩ (Lib.byteCells l) hc
  rw [Lib.byteCells_length] at hl
  rw [run_bytesToString w ⟨g, 0, none⟩ l.length cap (l.map fun b => (b.toNat : Int)) (by rw [hl]; simp [Lib.byteCells, Function.comp_def])]
  rw [Z8]
  simp
theorem Rp {B : Nat} {l : List UInt8} {v : Value} {w : World} (h : Own B l v w) (n : Nat) : Own B l v (w.drewN n) := h
def wdL (s : ByteArray) : List Nat := s.data.toList.map fun b => b.toNat
theorem Ps (s : ByteArray) : (wdL s).length = s.size := by rw [wdL, List.length_map, ← Lib.size_eq]
theorem Wz (s : ByteArray) (k : Nat) (h : k < s.size) : (wdL s).take (k + 1) = (wdL s).take k ++ [(s[k]'h).toNat] := by
 have h' : k < (wdL s).length := by rw [Ps]; exact h
 rw [List.take_succ_eq_append_getElem h']
 simp [wdL]; rfl
theorem Abe (s : ByteArray) : (wdL s).take s.size = wdL s := List.take_of_length_le (by rw [Ps]; exact Nat.le_refl _)
theorem U4 {α : Type} (l : List α) (k : Nat) : (l.take k).length ≤ k := List.length_take_le _ _
theorem Ajr (s : ByteArray) (w : World) (hs : s.size ≤ 35184372088832) :
  Ct 52 #[.string s] (.string ⟨(bL (wdL s)).toArray⟩) w := by
 have hm : (s.size : Int) ≤ 35184372088832 := by omega
 have HS := Lh hs
 clear hs
 have hg : Cp 80 #[.pointer (some ⟨w.heap.size, 0, none⟩), .int .i64 (2 * (s.size : Int))] (w.alloc (.cells #[.pointer none, .slice none 0 0] 79)) fun e w' => e = .returned (.tuple #[]) ∧ (Lib.BuilderAt 79 5 w.heap.size w.heap.size (.pointer (some ⟨w.heap.size, 0, none⟩)) [] w' ∧ Below w.heap.size (w.alloc (.cells #[.pointer none, .slice none 0 0] 79)) w') :=
  Tryz.Builder_Grow_fresh w.heap.size w.heap.size (2 * s.size) _ (Nat.le_refl _) (Sd w _) (by simp) (by have := HS.out; omega)
 go_enter Tryz.func52, Tryz.ntmps52
 go_wp2_with fail
 refine hg.mono ?_
 rintro e w1 ⟨rfl, hb1, bl1⟩
 have hbl : Below w.heap.size w w1 := ((Below.refl w.heap.size w).alloc (Nat.le_refl _) _).trans bl1
 clear hg
 go_wp2
 go_loopw [11] (fun i wr => ∃ k : Nat, i = .int .i64 k ∧ k ≤ s.size ∧ Bld w.heap.size (bL ((wdL s).take k)) wr ∧ Below w.heap.size w wr) (fun i _ => s.size - (intOf i).toNat)
 case atStart => exact ⟨0, rfl, Nat.zero_le _, Lib.IsBuilderF.of (.inr hb1), hbl⟩
 case round =>
  obtain ⟨k, rfl, hk, hI, hbw⟩ := hrel
  have hsz := Ah3 hI
  by_cases hlt : k < s.size
  ·have hl := U4 (wdL s) k
   have hu := (s[k]'hlt).toNat_lt
   have hr := fun W h hb => Qr w.heap.size (bL ((wdL s).take k)) (s[k]'hlt).toNat (by omega) W h (by rw [Ie]; have := HS.out; omega) hb
   have HW := Lh (show IntKind.u16.wrap (((s[k]'hlt).toNat : Nat) : Int) = ((s[k]'hlt).toNat : Int) from IntWalk.u16_in _ (by omega))
   have HG := Lh (Wz s k hlt)
   clear hl hu
   go_wp2_with fail
   rw [HW.out]
   refine (hr _ hI (by omega)).mono ?_
   rintro e w2 ⟨rfl, hI2, hb2⟩
   go_wp2
   go_roundw
   case rel => exact ⟨k + 1, by go_num, by omega, by rw [HG.out, Ru]; exact hI2, hbw.trans hb2⟩
   case measure => simp [intOf]; omega
  ·have hS := Tryz.Builder_String_any_k w.heap.size w.heap.size _ wr hI (by omega)
   have HZ := Lh (show (wdL s).take k = wdL s by rw [show k = s.size by omega]; exact Abe s)
   go_wp2_with (go_at_call 82; refine hS.mono ?_; rintro e w2 ⟨rfl, _, hb2, _⟩)
   go_ret
   rw [HZ.out]
   exact ⟨rfl, hbw.trans hb2⟩
theorem Aee (s : ByteArray) (w : World) (hs : s.size ≤ 35184372088832) :
  Ct 43 #[.string s] (.string ⟨(bL (wdL s)).toArray⟩) w := by
 have hm : (s.size : Int) ≤ 35184372088832 := by omega
 have HS := Lh hs
 clear hs
 go_enter Tryz.func43, Tryz.ntmps43
 go_wp2
 go_loopw [3, 4] (fun v i wr => ∃ k : Nat, i = .int .i64 k ∧ k ≤ s.size ∧ Own w.heap.size (bL ((wdL s).take k)) v wr ∧ Below w.heap.size w wr) (fun _ i _ => s.size - (intOf i).toNat)
 case atStart => exact ⟨0, rfl, Nat.zero_le _, Own.nil _ _, Below.refl _ _⟩
 case round =>
  obtain ⟨k, rfl, hk, hI, hbw⟩ := hrel
  by_cases hlt : k < s.size
  ·have hl := U4 (wdL s) k
   have hu := (s[k]'hlt).toNat_lt
   have hr := fun W v h hb => Ak7 w.heap.size (bL ((wdL s).take k)) v (s[k]'hlt).toNat (by omega) W h (by rw [Ie]; have := HS.out; omega) hb
   have HW := Lh (show IntKind.u16.wrap (((s[k]'hlt).toNat : Nat) : Int) = ((s[k]'hlt).toNat : Int) from IntWalk.u16_in _ (by omega))
   have HG := Lh (Wz s k hlt)
   clear hl hu
   go_wp2_with fail
   rw [HW.out]
   refine (hr _ _ hI hbw.size).mono ?_
   rintro e w2 ⟨v2, rfl, hI2, hb2⟩
   go_wp2
   go_roundw
   case rel => exact ⟨k + 1, by go_num, by omega, by rw [HG.out, Ru]; exact hI2, hbw.trans hb2⟩
   case measure => simp [intOf]; omega
  ·have HZ := Lh (show (wdL s).take k = wdL s by rw [show k = s.size by omega]; exact Abe s)
   have hcv := Pp hI
   go_wp2
   go_ret
   rw [HZ.out]
   exact ⟨rfl, hbw⟩
theorem Aij : (Tryz.prog.info? 68).map (fun i => (i.zero, i.size, i.bytes)) = some (some (.int .u16 0), 1, 2) := by kernel_rfl
theorem Ad4 {w : World} {b : Nat} {t : TypeId} {n : Nat} {f : Nat → Value} (h : w.rowIs b t n f) (m : Nat) : (w.drewN m).rowIs b t n f := h
theorem Acv (s : ByteArray) (w : World) (hs : s.size ≤ 140737488355328) :
  Cp 91 #[.string s] w fun e w' => e = .returned (.slice (some ⟨w.heap.size, 0, none⟩) (ln s) (ln s)) ∧ w'.rowIs w.heap.size 68 (ln s) (fun j => .int .u16 (un s j : Nat)) ∧ Below w.heap.size w w' := by
 have hl := Gp s
 have hs63 : s.size ≤ maxLen := by unfold maxLen; omega
 have hm : ((ln s : Nat) : Int) ≤ 70368744177664 := by omega
 have hmk := run_make_row' (P := Tryz.prog) 86 68 (.int .u16 0) 2 Tryz.underlying86 Aij rfl .i64 .i64 (ln s) (by omega) (by omega) w
 have hmade := World.rowIs_made w (.int .u16 0) (ln s) 68
 have H63 := Lh hs63
 have c1 := fun W => J4 s W H63.out
 clear hs hl hs63
 have hr0 : (w.alloc (.cells (madeCells #[.int .u16 0] (ln s)) 68)).rowIs w.heap.size 68 (ln s) (fun j => .int .u16 ((if j < 0 then un s j else 0 : Nat) : Int)) := hmade.congr (fun j _ => by simp)
 clear hmade
 go_enter Tryz.func91, Tryz.ntmps91
 go_wp2_with (go_at_call 48; refine (c1 _).mono ?_; rintro e w' ⟨rfl, rfl⟩)
 clear hmk
 go_loopw [10] (fun i wr => ∃ k : Nat, i = .int .i64 k ∧ k ≤ ln s ∧ wr.rowIs w.heap.size 68 (ln s) (fun j => .int .u16 ((if j < k then un s j else 0 : Nat) : Int)) ∧ Below w.heap.size w wr) (fun i _ => ln s - (intOf i).toNat)
 case atStart => exact ⟨0, rfl, Nat.zero_le _, hr0, (Below.refl _ _).alloc (Nat.le_refl _) _⟩
 case round =>
  obtain ⟨k, rfl, hk, hI, hbw⟩ := hrel
  by_cases hlt : k < ln s
  ·have hcell : wr.cell? ⟨w.heap.size, k, none⟩ = some (.int .u16 0) := by
    have := hI.cell hlt
    simpa using this
   have hfz := hI.frozen k
   have c2 := fun W => Ni s k W hlt H63.out
   have hI2 := hI.set k (.int .u16 (un s k : Nat))
   have hI3 : (wr.setCell ⟨w.heap.size, k, none⟩ (.int .u16 (un s k : Nat))).rowIs w.heap.size 68 (ln s) (fun j => .int .u16 ((if j < k + 1 then un s j else 0 : Nat) : Int)) := by
    refine hI2.congr fun j hj => ?_
    by_cases h1 : j = k
    ·subst h1; simp
    ·by_cases h2 : j < k
     ·rw [if_neg h1, if_pos h2, if_pos (by omega)]
     ·rw [if_neg h1, if_neg h2, if_neg (by omega)]
   have HI := Lh hI3
   clear hI hI2 hI3
   go_wp2_with fail
   refine Dm (c2 _) fun n => ?_
   go_wp2
   go_roundw
   case rel => exact ⟨k + 1, by go_num, by omega, Ad4 HI.out n, Ad (hbw.setCell (Nat.le_refl _) _) n⟩
   case measure => simp [intOf]; omega
  ·have HI := Lh (show wr.rowIs w.heap.size 68 (ln s) (fun j => .int .u16 (un s j : Nat)) from hI.congr fun j hj => by rw [if_pos (by omega)])
   clear hI
   go_wp2
   go_ret
   exact ⟨rfl, HI.out, hbw⟩
def Qd (s : ByteArray) (i : Int) : Bool := decide (0 ≤ i) && decide (i < ln s)
def unV (s : ByteArray) (i : Int) : Nat := if Qd s i then un s i.toNat else 0
theorem Afm (s : ByteArray) (i : Int) (w : World) (hs : s.size ≤ maxLen) :
  Cp 104 #[.string s, .int .i64 i] w fun e w' => e = .returned (.tuple #[.int .u16 (unV s i), .bool (Qd s i)]) ∧ ∃ n, w' = w.drewN n := by
 have c1 := fun W => Gw s W hs
 by_cases h0 : 0 ≤ i
 ·obtain ⟨k, rfl⟩ := Int.eq_ofNat_of_zero_le h0
  by_cases h1 : k < ln s
  ·have e1 : Qd s (k : Int) = true := by simp [Qd]; omega
   have e2 : unV s (k : Int) = un s k := by unfold unV; rw [if_pos e1]; rfl
   have c2 := fun W => Ho s k W h1 hs
   have h1' : (k : Int) < (ln s : Int) := by omega
   rw [e1, e2]
   clear e1 e2
   go_enter Tryz.func104, Tryz.ntmps104
   go_wp2_with (first | (go_at_call 88; refine (c1 _).mono ?_; rintro e w' ⟨rfl, rfl⟩) | (go_at_call 89; refine (c2 _).mono ?_; rintro e w' ⟨rfl, n, rfl⟩))
   go_ret2
   exact ⟨rfl, n, rfl⟩
  ·have e1 : Qd s (k : Int) = false := by simp [Qd]; omega
   have e2 : unV s (k : Int) = 0 := by unfold unV; rw [e1]; rfl
   have h1' : ¬ ((k : Int) < (ln s : Int)) := by omega
   rw [e1, e2]
   clear e1 e2
   go_enter Tryz.func104, Tryz.ntmps104
   go_wp2_with (first | (go_at_call 88; refine (c1 _).mono ?_; rintro e w' ⟨rfl, rfl⟩))
   go_ret2
   exact ⟨rfl, 0, rfl⟩
 ·have e1 : Qd s i = false := by simp [Qd]; omega
  have e2 : unV s i = 0 := by unfold unV; rw [e1]; rfl
  rw [e1, e2]
  clear e1 e2
  go_enter Tryz.func104, Tryz.ntmps104
  go_wp2_with (first | (go_at_call 88; refine (c1 _).mono ?_; rintro e w' ⟨rfl, rfl⟩))
  go_ret2
  exact ⟨rfl, 0, rfl⟩
def slS (s : ByteArray) (f t : Int) : ByteArray := if max f 0 < min t (ln s) then s.extract (2 * (max f 0).toNat) (2 * (min t (ln s)).toNat) else { data := #[] }
theorem Sj (s : ByteArray) (f t : Int) (w : World) (hs : s.size ≤ maxLen) :
  Cq 47 #[.string s, .int .i64 f, .int .i64 t] (.string (slS s f t)) w := by
 have hl := Gp s
 have hm : (s.size : Int) ≤ 9223372036854775807 := by unfold maxLen at hs; omega
 have c1 := fun W => J4 s W hs
 have hsl : slS s f t = if max f 0 < min t (ln s) then s.extract (2 * (max f 0).toNat) (2 * (min t (ln s)).toNat) else { data := #[] } := rfl
 have hm1 : 0 ≤ max f 0 := by omega
 have hn1 : min t (ln s) ≤ ln s := by omega
 have hl2 : 2 * ((ln s : Nat) : Int) ≤ (s.size : Int) := by omega
 obtain ⟨m, hm0⟩ : ∃ m : Int, max f 0 = m := ⟨_, rfl⟩
 obtain ⟨n, hn0⟩ : ∃ n : Int, min t (ln s) = n := ⟨_, rfl⟩
 rw [hm0, hn0] at hsl
 rw [hm0] at hm1
 rw [hn0] at hn1
 by_cases h : m < n
 ·rw [if_pos h] at hsl
  have HS := Lh hsl
  have k1 : 2 * m ≤ 2 * n := by omega
  have k2 : 2 * n ≤ (s.size : Int) := by omega
  have k3 : 0 ≤ 2 * m := by omega
  have k4 : 0 ≤ 2 * n := by omega
  have e1 : (2 * m).toNat = 2 * m.toNat := by omega
  have e2 : (2 * n).toNat = 2 * n.toNat := by omega
  clear hsl hl hs hl2 hn1
  go_enter Tryz.func47, Tryz.ntmps47
  go_wp2_with (go_at_call 48; refine (c1 _).mono ?_; rintro e w' ⟨rfl, rfl⟩)
  go_ret
  exact ⟨by rw [HS.out]; rfl, rfl⟩
 ·rw [if_neg h] at hsl
  have HS := Lh hsl
  clear hsl hl hs hl2 hn1
  go_enter Tryz.func47, Tryz.ntmps47
  go_wp2_with (go_at_call 48; refine (c1 _).mono ?_; rintro e w' ⟨rfl, rfl⟩)
  go_ret
  exact ⟨by rw [HS.out]; rfl, rfl⟩
theorem Zu (s : ByteArray) (f t : Int) (w : World) (hs : s.size ≤ maxLen) :
  Cq 107 #[.string s, .int .i64 f, .int .i64 t] (.string (slS s f t)) w := by
 have hl := Gp s
 have hm : (s.size : Int) ≤ 9223372036854775807 := by unfold maxLen at hs; omega
 have c1 := fun W => Gw s W hs
 have hl2 : 2 * ((ln s : Nat) : Int) ≤ (s.size : Int) := by omega
 have main : ∀ m n : Int, max f 0 = m → min t (ln s) = n → (m = f ∧ ¬ f < 0 ∨ m = 0 ∧ f < 0) → (n = t ∧ ¬ ((ln s : Nat) : Int) < t ∨ n = (ln s : Nat) ∧ ((ln s : Nat) : Int) < t) →
   Cq 107 #[.string s, .int .i64 f, .int .i64 t] (.string (slS s f t)) w := by
  intro m n hm0 hn0 hf ht
  have hsl : slS s f t = if m < n then s.extract (2 * m.toNat) (2 * n.toNat) else { data := #[] } := by unfold slS; rw [hm0, hn0]
  have hm1 : 0 ≤ m := by omega
  have hn1 : n ≤ ln s := by omega
  clear hm0 hn0
  by_cases h : m < n
  ·rw [if_pos h] at hsl
   have HS := Lh hsl
   have k1 : 2 * m ≤ 2 * n := by omega
   have k2 : 2 * n ≤ (s.size : Int) := by omega
   have k3 : 0 ≤ 2 * m := by omega
   have k4 : 0 ≤ 2 * n := by omega
   have e1 : (2 * m).toNat = 2 * m.toNat := by omega
   have e2 : (2 * n).toNat = 2 * n.toNat := by omega
   clear hsl hl hs hl2 hn1
   rcases hf with ⟨rfl, hf⟩ | ⟨rfl, hf⟩ <;> rcases ht with ⟨rfl, ht⟩ | ⟨rfl, ht⟩
   all_goals
    go_enter Tryz.func107, Tryz.ntmps107
    go_wp2_with (go_at_call 88; refine (c1 _).mono ?_; rintro e w' ⟨rfl, rfl⟩)
    go_ret
    exact ⟨by rw [HS.out]; rfl, rfl⟩
  ·rw [if_neg h] at hsl
   have HS := Lh hsl
   clear hsl hl hs hl2 hn1
   rcases hf with ⟨rfl, hf⟩ | ⟨rfl, hf⟩ <;> rcases ht with ⟨rfl, ht⟩ | ⟨rfl, ht⟩
   all_goals
    go_enter Tryz.func107, Tryz.ntmps107
    go_wp2_with (go_at_call 88; refine (c1 _).mono ?_; rintro e w' ⟨rfl, rfl⟩)
    go_ret
    exact ⟨by rw [HS.out]; rfl, rfl⟩
 exact main (max f 0) (min t (ln s)) rfl rfl (by omega) (by omega)
def blU (s : ByteArray) (i : Nat) : Bool := blB ((un s i : Nat) : Int)
def tF (s : ByteArray) : Nat → Nat → Nat
 | 0, i => i
 | f + 1, i => if i < ln s ∧ blU s i = true then tF s f (i + 1) else i
def tT (s : ByteArray) (F : Nat) : Nat → Nat → Nat
 | 0, t => t
 | f + 1, t => if F < t ∧ blU s (t - 1) = true then tT s F f (t - 1) else t
def frS (s : ByteArray) : Nat := tF s (ln s) 0
def toS (s : ByteArray) : Nat := tT s (frS s) (ln s) (ln s)
def Dj (s : ByteArray) : ByteArray := slS s (frS s) (toS s)
theorem Amr (s : ByteArray) (f i : Nat) (h : i < ln s) (hb : blU s i = true) : tF s (f + 1) i = tF s f (i + 1) := by simp [tF, h, hb]
theorem Ahl (s : ByteArray) (f i : Nat) (h : ¬ (i < ln s ∧ blU s i = true)) : tF s f i = i := by
 cases f with
 | zero => rfl
 | succ f => rw [tF, if_neg h]
theorem Amm (s : ByteArray) (F f t : Nat) (h : F < t + 1) (hb : blU s t = true) : tT s F (f + 1) (t + 1) = tT s F f t := by simp [tT, h, hb]
theorem Aj3 (s : ByteArray) (F f t : Nat) (h : ¬ (F < t ∧ blU s (t - 1) = true)) : tT s F f t = t := by
 cases f with
 | zero => rfl
 | succ f => rw [tT, if_neg h]
theorem Hh (s : ByteArray) (i : Nat) (w : World) (b : Bool) (hb : blU s i = b) : Cq 93 #[.int .u16 (un s i : Nat)] (.bool b) w := by
 refine Sm (Aex _ w) ?_
 exact ⟨by rw [← hb]; rfl, rfl⟩
theorem Agx (s : ByteArray) (w : World) (hs : s.size ≤ maxLen) :
  Cp 71 #[.string s] w fun e w' => e = .returned (.string (Dj s)) ∧ ∃ n, w' = w.drewN n := by
 have hl := Gp s
 have hm : ((ln s : Nat) : Int) ≤ 4611686018427387903 := by unfold maxLen at hs; omega
 have H63 := Lh hs
 have c1 := fun W => J4 s W H63.out
 clear hs hl
 go_enter Tryz.func71, Tryz.ntmps71
 go_wp2_with (go_at_call 48; refine (c1 _).mono ?_; rintro e w' ⟨rfl, rfl⟩)
 go_loopw [3] (fun i wr => ∃ k f : Nat, i = .int .i64 k ∧ k ≤ ln s ∧ tF s f k = frS s ∧ ln s ≤ k + f ∧ ∃ n, wr = w.drewN n) (fun i _ => ln s - (intOf i).toNat)
 case atStart => exact ⟨0, ln s, rfl, Nat.zero_le _, rfl, by omega, 0, rfl⟩
 case round =>
  obtain ⟨k, fuel, rfl, hk, hF, hfu, n, rfl⟩ := hrel
  have HF := Lh hF
  clear hF
  by_cases hc : k < ln s ∧ blU s k = true
  ·obtain ⟨hlt, hb⟩ := hc
   obtain ⟨f, rfl⟩ : ∃ f, fuel = f + 1 := ⟨fuel - 1, by omega⟩
   have HG := Lh (show tF s f (k + 1) = frS s by rw [← HF.out, Amr s f k hlt hb])
   have c2 := fun W => Ni s k W hlt H63.out
   have c3 := fun W => Hh s k W true hb
   have hlt' : (k : Int) < (ln s : Int) := by omega
   clear hb HF
   go_wp2_with (first | (go_at_call 94; refine (c2 _).mono ?_; rintro e w' ⟨rfl, n2, rfl⟩) | (go_at_call 93; refine (c3 _).mono ?_; rintro e w' ⟨rfl, rfl⟩))
   go_roundw
   case rel => exact ⟨k + 1, f, by go_num, by omega, HG.out, by omega, _, rfl⟩
   case measure => simp [intOf]; omega
  ·have HK := Lh (show frS s = k by rw [← HF.out, Ahl s fuel k hc])
   have hor : (¬ ((k : Int) < (ln s : Int))) ∨ ((k : Int) < (ln s : Int) ∧ blU s k = false ∧ k < ln s) := by
    by_cases h : k < ln s
    ·right; refine ⟨by omega, ?_, h⟩
     cases hb : blU s k
     ·rfl
     ·exact absurd ⟨h, hb⟩ hc
    ·left; omega
   have H1 := Lh (fun W (h : k < ln s) => Ni s k W h H63.out)
   have H2 := Lh (fun W (h : blU s k = false) => Hh s k W false h)
   clear hc HF
   rcases hor with h1 | ⟨h1, h2, h3⟩
   all_goals
    try have c2 := fun W => H1.out W h3
    try have c3 := fun W => H2.out W h2
    try clear h2
    go_wp2_with (first | (go_at_call 94; refine (c2 _).mono ?_; rintro e w' ⟨rfl, n2, rfl⟩) | (go_at_call 93; refine (c3 _).mono ?_; rintro e w' ⟨rfl, rfl⟩))
    go_loopw [4] (fun i wr => ∃ t f : Nat, i = .int .i64 t ∧ t ≤ ln s ∧ tT s k f t = tT s k (ln s) (ln s) ∧ t ≤ f ∧ ∃ n, wr = w.drewN n) (fun i _ => (intOf i).toNat)
    case atStart => exact ⟨ln s, ln s, rfl, by omega, rfl, by omega, _, rfl⟩
    case round =>
     obtain ⟨t, fu, rfl, ht, hT, hfu2, n3, rfl⟩ := hrel
     have HT := Lh hT
     clear hT
     by_cases hc2 : k < t ∧ blU s (t - 1) = true
     ·obtain ⟨hlt2, hb2⟩ := hc2
      obtain ⟨t, rfl⟩ : ∃ t', t = t' + 1 := ⟨t - 1, by omega⟩
      obtain ⟨f2, rfl⟩ : ∃ f', fu = f' + 1 := ⟨fu - 1, by omega⟩
      have hb3 : blU s t = true := hb2
      have HG2 := Lh (show tT s k f2 t = tT s k (ln s) (ln s) by rw [← HT.out, Amm s k f2 t hlt2 hb3])
      have c4 := fun W => Ni s t W (by omega) H63.out
      have c5 := fun W => Hh s t W true hb3
      have g1 : (k : Int) < (t : Int) + 1 := by omega
      clear hb2 hb3 HT
      go_wp2_with (first | (go_at_call 94; refine (c4 _).mono ?_; rintro e w' ⟨rfl, n4, rfl⟩) | (go_at_call 93; refine (c5 _).mono ?_; rintro e w' ⟨rfl, rfl⟩))
      go_roundw
      case rel => exact ⟨t, f2, rfl, by omega, HG2.out, by omega, _, rfl⟩
      case measure => simp [intOf]
     ·have HK2 := Lh (show toS s = t by unfold toS; rw [HK.out, ← HT.out, Aj3 s k fu t hc2])
      have hor2 : (¬ ((k : Int) < (t : Int))) ∨ ((k : Int) < (t : Int) ∧ blU s (t - 1) = false ∧ k < t) := by
       by_cases h : k < t
       ·right; refine ⟨by omega, ?_, h⟩
        cases hb : blU s (t - 1)
        ·rfl
        ·exact absurd ⟨h, hb⟩ hc2
       ·left; omega
      have hsl := fun W => Sj s k t W H63.out
      have HR := Lh (show Dj s = slS s k t by unfold Dj; rw [HK.out, HK2.out])
      clear hc2 HT
      rcases hor2 with g1 | ⟨g1, g2, g3⟩
      ·go_wp2_with (go_at_call 47; refine (hsl _).mono ?_; rintro e w' ⟨rfl, rfl⟩)
       go_ret
       exact ⟨by rw [HR.out]; rfl, _, rfl⟩
      ·obtain ⟨t, rfl⟩ : ∃ t', t = t' + 1 := ⟨t - 1, by omega⟩
       have c4 := fun W => Ni s t W (by omega) H63.out
       have c5 := fun W => Hh s t W false g2
       have g1' : (k : Int) < (t : Int) + 1 := by omega
       clear g2 g1
       go_wp2_with (first | (go_at_call 94; refine (c4 _).mono ?_; rintro e w' ⟨rfl, n4, rfl⟩) | (go_at_call 93; refine (c5 _).mono ?_; rintro e w' ⟨rfl, rfl⟩) | (go_at_call 47; refine (hsl _).mono ?_; rintro e w' ⟨rfl, rfl⟩))
       go_ret
       exact ⟨by rw [HR.out]; rfl, _, rfl⟩
theorem M6 (s : ByteArray) (i : Nat) (w : World) (b : Bool) (hb : spB ((un s i : Nat) : Int) = b) : Cq 105 #[.int .u16 (un s i : Nat)] (.bool b) w := by
 refine Sm (Aay _ w) ?_
 exact ⟨by rw [← hb], rfl⟩
theorem Mv (s : ByteArray) (i : Nat) (w : World) (b : Bool) (hb : enB ((un s i : Nat) : Int) = b) : Cq 106 #[.int .u16 (un s i : Nat)] (.bool b) w := by
 refine Sm (Aeq _ w) ?_
 exact ⟨by rw [← hb], rfl⟩
theorem Xd {s : ByteArray} {i : Nat} (h : blU s i = true) : spB ((un s i : Nat) : Int) = true ∨ (spB ((un s i : Nat) : Int) = false ∧ enB ((un s i : Nat) : Int) = true) := by
 unfold blU blB at h
 cases h1 : spB ((un s i : Nat) : Int)
 ·right; rw [h1] at h; exact ⟨rfl, by simpa using h⟩
 ·left; rfl
theorem Io {s : ByteArray} {i : Nat} (h : blU s i = false) : spB ((un s i : Nat) : Int) = false ∧ enB ((un s i : Nat) : Int) = false := by
 unfold blU blB at h
 simpa using h
theorem Ae5 (s : ByteArray) (w : World) (hs : s.size ≤ maxLen) :
  Cp 76 #[.string s] w fun e w' => e = .returned (.string (Dj s)) ∧ ∃ n, w' = w.drewN n := by
 have hl := Gp s
 have hm : ((ln s : Nat) : Int) ≤ 4611686018427387903 := by unfold maxLen at hs; omega
 have H63 := Lh hs
 have c1 := fun W => Gw s W H63.out
 clear hs hl
 go_enter Tryz.func76, Tryz.ntmps76
 go_wp2_with (go_at_call 88; refine (c1 _).mono ?_; rintro e w' ⟨rfl, rfl⟩)
 go_loopw [3] (fun i wr => ∃ k f : Nat, i = .int .i64 k ∧ k ≤ ln s ∧ tF s f k = frS s ∧ ln s ≤ k + f ∧ ∃ n, wr = w.drewN n) (fun i _ => ln s - (intOf i).toNat)
 case atStart => exact ⟨0, ln s, rfl, Nat.zero_le _, rfl, by omega, 0, rfl⟩
 case round =>
  obtain ⟨k, fuel, rfl, hk, hF, hfu, n, rfl⟩ := hrel
  have HF := Lh hF
  clear hF
  by_cases hc : k < ln s ∧ blU s k = true
  ·obtain ⟨hlt, hb⟩ := hc
   obtain ⟨f, rfl⟩ : ∃ f, fuel = f + 1 := ⟨fuel - 1, by omega⟩
   have HG := Lh (show tF s f (k + 1) = frS s by rw [← HF.out, Amr s f k hlt hb])
   have c2 := fun W => Ho s k W hlt H63.out
   have hlt' : (k : Int) < (ln s : Int) := by omega
   have H2 := Lh (fun W b (h : spB ((un s k : Nat) : Int) = b) => M6 s k W b h)
   have H3 := Lh (fun W b (h : enB ((un s k : Nat) : Int) = b) => Mv s k W b h)
   clear HF
   rcases Xd hb with g1 | ⟨g1, g2⟩
   all_goals
    have c3 := fun W => H2.out W _ g1
    try have c4 := fun W => H3.out W _ g2
    clear hb g1
    try clear g2
    go_wp2_with (first | (go_at_call 89; refine (c2 _).mono ?_; rintro e w' ⟨rfl, n2, rfl⟩) | (go_at_call 105; refine (c3 _).mono ?_; rintro e w' ⟨rfl, rfl⟩) | (go_at_call 106; refine (c4 _).mono ?_; rintro e w' ⟨rfl, rfl⟩))
    go_roundw
    case rel => exact ⟨k + 1, f, by go_num, by omega, HG.out, by omega, _, rfl⟩
    case measure => simp [intOf]; omega
  ·have HK := Lh (show frS s = k by rw [← HF.out, Ahl s fuel k hc])
   have hor : (¬ ((k : Int) < (ln s : Int))) ∨ ((k : Int) < (ln s : Int) ∧ blU s k = false ∧ k < ln s) := by
    by_cases h : k < ln s
    ·right; refine ⟨by omega, ?_, h⟩
     cases hb : blU s k
     ·rfl
     ·exact absurd ⟨h, hb⟩ hc
    ·left; omega
   have H1 := Lh (fun W (h : k < ln s) => Ho s k W h H63.out)
   have H2 := Lh (fun W (h : blU s k = false) => M6 s k W false (Io h).1)
   have H3 := Lh (fun W (h : blU s k = false) => Mv s k W false (Io h).2)
   clear hc HF
   rcases hor with h1 | ⟨h1, h2, h3⟩
   all_goals
    try have c2 := fun W => H1.out W h3
    try have c3 := fun W => H2.out W h2
    try have c4 := fun W => H3.out W h2
    try clear h2
    go_wp2_with (first | (go_at_call 89; refine (c2 _).mono ?_; rintro e w' ⟨rfl, n2, rfl⟩) | (go_at_call 105; refine (c3 _).mono ?_; rintro e w' ⟨rfl, rfl⟩) | (go_at_call 106; refine (c4 _).mono ?_; rintro e w' ⟨rfl, rfl⟩))
    go_loopw [4] (fun i wr => ∃ t f : Nat, i = .int .i64 t ∧ t ≤ ln s ∧ tT s k f t = tT s k (ln s) (ln s) ∧ t ≤ f ∧ ∃ n, wr = w.drewN n) (fun i _ => (intOf i).toNat)
    case atStart => exact ⟨ln s, ln s, rfl, by omega, rfl, by omega, _, rfl⟩
    case round =>
     obtain ⟨t, fu, rfl, ht, hT, hfu2, n3, rfl⟩ := hrel
     have HT := Lh hT
     clear hT
     try clear c2 c3 c4
     by_cases hc2 : k < t ∧ blU s (t - 1) = true
     ·obtain ⟨hlt2, hb2⟩ := hc2
      obtain ⟨t, rfl⟩ : ∃ t', t = t' + 1 := ⟨t - 1, by omega⟩
      obtain ⟨f2, rfl⟩ : ∃ f', fu = f' + 1 := ⟨fu - 1, by omega⟩
      have hb3 : blU s t = true := hb2
      have HG2 := Lh (show tT s k f2 t = tT s k (ln s) (ln s) by rw [← HT.out, Amm s k f2 t hlt2 hb3])
      have c5 := fun W => Ho s t W (by omega) H63.out
      have g0 : (k : Int) < (t : Int) + 1 := by omega
      have G2 := Lh (fun W b (h : spB ((un s t : Nat) : Int) = b) => M6 s t W b h)
      have G3 := Lh (fun W b (h : enB ((un s t : Nat) : Int) = b) => Mv s t W b h)
      clear HT hb2
      rcases Xd hb3 with g1 | ⟨g1, g2⟩
      all_goals
       have c6 := fun W => G2.out W _ g1
       try have c7 := fun W => G3.out W _ g2
       clear hb3 g1
       try clear g2
       go_wp2_with (first | (go_at_call 89; refine (c5 _).mono ?_; rintro e w' ⟨rfl, n4, rfl⟩) | (go_at_call 105; refine (c6 _).mono ?_; rintro e w' ⟨rfl, rfl⟩) | (go_at_call 106; refine (c7 _).mono ?_; rintro e w' ⟨rfl, rfl⟩))
       go_roundw
       case rel => exact ⟨t, f2, rfl, by omega, HG2.out, by omega, _, rfl⟩
       case measure => simp [intOf]
     ·have HK2 := Lh (show toS s = t by unfold toS; rw [HK.out, ← HT.out, Aj3 s k fu t hc2])
      have hor2 : (¬ ((k : Int) < (t : Int))) ∨ ((k : Int) < (t : Int) ∧ blU s (t - 1) = false ∧ k < t) := by
       by_cases h : k < t
       ·right; refine ⟨by omega, ?_, h⟩
        cases hb : blU s (t - 1)
        ·rfl
        ·exact absurd ⟨h, hb⟩ hc2
       ·left; omega
      have hsl := fun W => Zu s k t W H63.out
      have HR := Lh (show Dj s = slS s k t by unfold Dj; rw [HK.out, HK2.out])
      clear hc2 HT
      rcases hor2 with g1 | ⟨g1, g2, g3⟩
      ·go_wp2_with (go_at_call 107; refine (hsl _).mono ?_; rintro e w' ⟨rfl, rfl⟩)
       go_ret
       exact ⟨by rw [HR.out]; rfl, _, rfl⟩
      ·obtain ⟨t, rfl⟩ : ∃ t', t = t' + 1 := ⟨t - 1, by omega⟩
       have g2' : blU s t = false := g2
       have c5 := fun W => Ho s t W (by omega) H63.out
       have c6 := fun W => M6 s t W false (Io g2').1
       have c7 := fun W => Mv s t W false (Io g2').2
       have g1' : (k : Int) < (t : Int) + 1 := by omega
       clear g2 g2' g1
       go_wp2_with (first | (go_at_call 89; refine (c5 _).mono ?_; rintro e w' ⟨rfl, n4, rfl⟩) | (go_at_call 105; refine (c6 _).mono ?_; rintro e w' ⟨rfl, rfl⟩) | (go_at_call 106; refine (c7 _).mono ?_; rintro e w' ⟨rfl, rfl⟩) | (go_at_call 107; refine (hsl _).mono ?_; rintro e w' ⟨rfl, rfl⟩))
       go_ret
       exact ⟨by rw [HR.out]; rfl, _, rfl⟩
end
section
theorem Y2 (x : Nat) (hx : x < 18446744073709551616) : x &&& 18446744073709551614 = x / 2 * 2 := by
 have h : x &&& 18446744073709551614 = (x >>> 1) <<< 1 := by
  apply Nat.eq_of_testBit_eq
  intro i
  rw [Nat.testBit_and, Nat.testBit_shiftLeft, Nat.testBit_shiftRight, show 18446744073709551614 = (2 ^ 63 - 1) <<< 1 from rfl, Nat.testBit_shiftLeft, Nat.testBit_two_pow_sub_one]
  by_cases h1 : 1 ≤ i
  ·rw [show 1 + (i - 1) = i by omega]
   by_cases h2 : i - 1 < 63
   ·simp [h1, h2]
   ·have : x.testBit i = false := Nat.testBit_lt_two_pow (Nat.lt_of_lt_of_le hx (by
     have : 2 ^ 64 ≤ 2 ^ i := Nat.pow_le_pow_right (by omega) (by omega)
     simpa using this))
    simp [this]
  ·simp [h1]
 rw [h, Nat.shiftLeft_eq, Nat.shiftRight_eq_div_pow]
theorem Zx (n : Nat) (hn : n ≤ 9223372036854775807) : bits BinOp.andNot IntKind.i64 (n : Int) 1 = 2 * ((n / 2 : Nat) : Int) := by
 show IntKind.i64.wrap ((BitVec.ofInt 64 (n : Int) &&& ~~~BitVec.ofInt 64 1).toNat : Int) = _
 have h1 : (BitVec.ofInt 64 1).toNat = 1 := by decide
 have h2 : (BitVec.ofInt 64 (n : Int)).toNat = n := by
  rw [BitVec.ofInt_natCast, BitVec.toNat_ofNat]; exact Nat.mod_eq_of_lt (by omega)
 rw [BitVec.toNat_and, BitVec.toNat_not, h2, h1, show 2 ^ 64 - 1 - 1 = 18446744073709551614 by decide, Y2 n (by omega)]
 rw [IntKind.wrap_i64]
 omega
def wh (s : ByteArray) : ByteArray := s.extract 0 (2 * ln s)
theorem Aa8 (s : ByteArray) : (wh s).data.toList = bL (us s) := by
 unfold wh us
 rw [Lib.extract_data, Ami, ← Lib.size_eq]
 simp [ln]
theorem Rx (s : ByteArray) (w : World) (hs : s.size ≤ maxLen) : Cq 87 #[.string s] (.string (wh s)) w := by
 have hl := Gp s
 have hb : bits BinOp.andNot IntKind.i64 (s.size : Int) 1 = 2 * ((ln s : Nat) : Int) := Zx s.size (by unfold maxLen at hs; omega)
 have k0 : 0 ≤ 2 * ((ln s : Nat) : Int) := by omega
 have k1 : 2 * ((ln s : Nat) : Int) ≤ (s.size : Int) := by omega
 have e1 : (2 * ((ln s : Nat) : Int)).toNat = 2 * ln s := by omega
 clear hs hl
 go_enter Tryz.func87, Tryz.ntmps87
 go_wp2
 go_ret
 exact ⟨rfl, rfl⟩
def Gr : List Nat → List Nat → Int
 | [], [] => 0
 | [], _ :: _ => -1
 | _ :: _, [] => 1
 | a :: la, b :: lb => if a < b then -1 else if b < a then 1 else Gr la lb
theorem Abv (a b : Nat) (ha : a < 256) (hb : b < 256) : UInt8.ofNat a < UInt8.ofNat b ↔ a < b := by
 rw [UInt8.lt_iff_toNat_lt, UInt8.toNat_ofNat', UInt8.toNat_ofNat', Nat.mod_eq_of_lt (by simpa using ha), Nat.mod_eq_of_lt (by simpa using hb)]
theorem Ajv (a : Nat) : UInt8.ofNat a = UInt8.ofNat (a % 256) := by
 apply UInt8.toNat_inj.1
 rw [UInt8.toNat_ofNat', UInt8.toNat_ofNat']
 simp
theorem Ai1 : ∀ (l m : List Nat), (∀ u ∈ l, u < 65536) → (∀ u ∈ m, u < 65536) → Lib.compareBytes (bL l) (bL m) = Gr l m
 | [], [], _, _ => rfl
 | [], b :: lb, _, _ => rfl
 | a :: la, [], _, _ => rfl
 | a :: la, b :: lb, hl, hm => by
  have ha := hl a (by simp)
  have hb := hm b (by simp)
  have ih := Ai1 la lb (fun u h => hl u (by simp [h])) (fun u h => hm u (by simp [h]))
  rw [M9, M9, Ajv a, Ajv b]
  simp only [Lib.compareBytes, Gr]
  simp only [Abv (a / 256) (b / 256) (by omega) (by omega), Abv (b / 256) (a / 256) (by omega) (by omega), Abv (a % 256) (b % 256) (by omega) (by omega), Abv (b % 256) (a % 256) (by omega) (by omega), ih]
  repeat' split
  all_goals omega
theorem L6 (a b : ByteArray) (w : World) (ha : a.size ≤ maxLen) (hb : b.size ≤ maxLen) :
  Cq 61 #[.string a, .string b] (.int .i64 (Gr (us a) (us b))) w := by
 have c1 := fun W => Rx a W ha
 have c2 := fun W => Rx b W hb
 have HE := Lh (show Lib.compareBytes (wh a).data.toList (wh b).data.toList = Gr (us a) (us b) by
  rw [Aa8, Aa8]
  exact Ai1 _ _ (Ajf a) (Ajf b))
 go_enter Tryz.func61, Tryz.ntmps61
 go_wp2_with (first | (go_at_call 87; first | (refine (c1 _).mono ?_; rintro e w' ⟨rfl, rfl⟩) | (refine (c2 _).mono ?_; rintro e w' ⟨rfl, rfl⟩)) | (go_at_call 86; refine (Tryz.strings_Compare _ _ _).mono ?_; rintro e w' ⟨rfl, rfl⟩))
 go_ret
 exact ⟨by rw [← HE.out]; rfl, rfl⟩
theorem Nc (a : ByteArray) (k : Nat) (h : k < ln a) : (us a).drop k = un a k :: (us a).drop (k + 1) := by
 have h2 : k < (us a).length := by rw [Fx]; exact h
 rw [List.drop_eq_getElem_cons h2, O1]
theorem Hy (a : ByteArray) (k : Nat) (h : ln a ≤ k) : (us a).drop k = [] := List.drop_eq_nil_iff.2 (by rw [Fx]; exact h)
theorem En (a b : ByteArray) (w : World) (ha : a.size ≤ maxLen) (hb : b.size ≤ maxLen) :
  Cp 63 #[.string a, .string b] w fun e w' => e = .returned (.int .i64 (Gr (us a) (us b))) ∧ ∃ n, w' = w.drewN n := by
 have hl := Gp a
 have hl2 := Gp b
 have hm : ((ln a : Nat) : Int) ≤ 4611686018427387903 := by unfold maxLen at ha; omega
 have hm2 : ((ln b : Nat) : Int) ≤ 4611686018427387903 := by unfold maxLen at hb; omega
 have c1 := fun W => Gw a W ha
 have c2 := fun W => Gw b W hb
 have HA := Lh (fun W (k : Nat) (h : k < ln a) => Ho a k W h ha)
 have HB := Lh (fun W (k : Nat) (h : k < ln b) => Ho b k W h hb)
 obtain ⟨C, hC⟩ : ∃ C, Gr (us a) (us b) = C := ⟨_, rfl⟩
 rw [hC]
 have HC := Lh (show Gr ((us a).drop 0) ((us b).drop 0) = C by simpa using hC)
 clear ha hb hl hl2 hC
 go_enter Tryz.func63, Tryz.ntmps63
 go_wp2
 go_loopw [5, 6, 7] (fun i _ _ wr => ∃ k : Nat, i = .int .i64 k ∧ k ≤ ln a ∧ k ≤ ln b ∧ Hid (Gr ((us a).drop k) ((us b).drop k) = C) ∧ ∃ n, wr = w.drewN n) (fun i _ _ _ => ln a - (intOf i).toNat)
 case atStart => exact ⟨0, rfl, by omega, by omega, HC, 0, rfl⟩
 case round =>
  obtain ⟨k, rfl, hka, hkb, HD, n, rfl⟩ := hrel
  clear HC
  by_cases h1 : k < ln a
  ·by_cases h2 : k < ln b
   ·have d1 := fun W => HA.out W k h1
    have d2 := fun W => HB.out W k h2
    have hD := HD.out
    rw [Nc a k h1, Nc b k h2] at hD
    simp only [Gr] at hD
    clear HD
    by_cases g1 : un a k < un b k
    ·rw [if_pos g1] at hD
     have HE := Lh hD
     have g1' : ((un a k : Nat) : Int) < (un b k : Nat) := by omega
     clear hD g1
     go_wp2_with (first | (go_at_call 88; first | (refine (c1 _).mono ?_; rintro e w' ⟨rfl, rfl⟩) | (refine (c2 _).mono ?_; rintro e w' ⟨rfl, rfl⟩)) | fail)
     refine Dm (d1 _) fun n2 => ?_
     go_wp2_with fail
     refine Dm (d2 _) fun n3 => ?_
     go_wp2
     go_ret
     exact ⟨by rw [← HE.out]; rfl, _, rfl⟩
    ·rw [if_neg g1] at hD
     by_cases g2 : un b k < un a k
     ·rw [if_pos g2] at hD
      have HE := Lh hD
      have g1' : ¬ ((un a k : Nat) : Int) < (un b k : Nat) := by omega
      have g2' : ((un b k : Nat) : Int) < (un a k : Nat) := by omega
      clear hD g1 g2
      go_wp2_with (first | (go_at_call 88; first | (refine (c1 _).mono ?_; rintro e w' ⟨rfl, rfl⟩) | (refine (c2 _).mono ?_; rintro e w' ⟨rfl, rfl⟩)) | fail)
      refine Dm (d1 _) fun n2 => ?_
      go_wp2_with fail
      refine Dm (d2 _) fun n3 => ?_
      go_wp2
      go_ret
      exact ⟨by rw [← HE.out]; rfl, _, rfl⟩
     ·rw [if_neg g2] at hD
      have HE := Lh hD
      have g1' : ¬ ((un a k : Nat) : Int) < (un b k : Nat) := by omega
      have g2' : ¬ ((un b k : Nat) : Int) < (un a k : Nat) := by omega
      clear hD g1 g2
      go_wp2_with (first | (go_at_call 88; first | (refine (c1 _).mono ?_; rintro e w' ⟨rfl, rfl⟩) | (refine (c2 _).mono ?_; rintro e w' ⟨rfl, rfl⟩)) | fail)
      refine Dm (d1 _) fun n2 => ?_
      go_wp2_with fail
      refine Dm (d2 _) fun n3 => ?_
      go_wp2
      go_roundw
      case rel => exact ⟨k + 1, by go_num, by omega, by omega, HE, _, rfl⟩
      case measure => simp [intOf]; omega
   ·have hD := HD.out
    rw [Nc a k h1, Hy b k (by omega)] at hD
    simp only [Gr] at hD
    have HE := Lh hD
    have g : ((ln b : Nat) : Int) < (ln a : Nat) := by omega
    clear hD HD
    go_wp2_with (first | (go_at_call 88; first | (refine (c1 _).mono ?_; rintro e w' ⟨rfl, rfl⟩) | (refine (c2 _).mono ?_; rintro e w' ⟨rfl, rfl⟩)))
    go_ret
    exact ⟨by rw [← HE.out]; rfl, _, rfl⟩
  ·have hD := HD.out
   rw [Hy a k (by omega)] at hD
   by_cases h2 : k < ln b
   ·rw [Nc b k h2] at hD
    simp only [Gr] at hD
    have HE := Lh hD
    have g : ((ln a : Nat) : Int) < (ln b : Nat) := by omega
    clear hD HD
    go_wp2_with (first | (go_at_call 88; first | (refine (c1 _).mono ?_; rintro e w' ⟨rfl, rfl⟩) | (refine (c2 _).mono ?_; rintro e w' ⟨rfl, rfl⟩)))
    go_ret
    exact ⟨by rw [← HE.out]; rfl, _, rfl⟩
   ·rw [Hy b k (by omega)] at hD
    simp only [Gr] at hD
    have HE := Lh hD
    have g : ((ln a : Nat) : Int) = (ln b : Nat) := by omega
    clear hD HD
    go_wp2_with (first | (go_at_call 88; first | (refine (c1 _).mono ?_; rintro e w' ⟨rfl, rfl⟩) | (refine (c2 _).mono ?_; rintro e w' ⟨rfl, rfl⟩)))
    go_ret
    exact ⟨by rw [← HE.out]; rfl, _, rfl⟩
end
section
def Ao5 (L : List Nat) (N : Nat) (w : World) (e : Ending) (w' : World) : Prop := ∃ A c, e = .returned (.tuple #[.slice A N c, .int .i64 0]) ∧ (N ≤ c ∧ RW w' w'.heap.size A L) ∧ Below w.heap.size w w'
theorem NatPost.one {v N : Nat} {w w' : World} {e : Ending} (h : NatPost v w e w') (hl : An v = false) (hN : (wds v).length = N) : Ao5 (wds v) N w e w' := by
 obtain ⟨A, c, h1, h2, h3⟩ := h.get hl
 rw [hN] at h1 h2
 exact ⟨A, c, h1, h2, h3⟩
structure LongT (A D n M i : Nat) (R Q : List Nat) : Prop where
 lenR : R.length = M + n
 lenQ : Q.length = M
 wsR : Ws R
 wsQ : Ws Q
 sum : val R + 4294967296 ^ i * (val (Q.drop i) * D) = A
 rest : val (R.drop i) < D
theorem LongT.start {va vb s la n M : Nat} {R : List Nat} (hR : Ws R) (hl : R.length = M + n) (hM : la + 1 = M + n) (hn : 0 < n) (ha : va < 4294967296 ^ la) (hb : 4294967296 ^ (n - 1) ≤ vb) (hv : val R = 2 ^ s * va) :
  LongT (2 ^ s * va) (2 ^ s * vb) n M M R (List.replicate M 0) := by
 refine ⟨hl, List.length_replicate, hR, Ws.zeros _, ?_, ?_⟩
 ·rw [List.drop_of_length_le (by rw [List.length_replicate]; exact Nat.le_refl _)]
  simp [val, hv]
 ·have e := Ee R M (by omega)
  rw [hv] at e
  have e2 : 4294967296 ^ la = 4294967296 ^ M * 4294967296 ^ (n - 1) := by rw [← Nat.pow_add]; congr 1; omega
  have h1 : 2 ^ s * va < 2 ^ s * (4294967296 ^ M * 4294967296 ^ (n - 1)) := by rw [← e2]; exact Nat.mul_lt_mul_of_pos_left ha (Nat.two_pow_pos s)
  have h2 : 4294967296 ^ M * val (R.drop M) < 4294967296 ^ M * (2 ^ s * 4294967296 ^ (n - 1)) := by
   have : 4294967296 ^ M * (2 ^ s * 4294967296 ^ (n - 1)) = 2 ^ s * (4294967296 ^ M * 4294967296 ^ (n - 1)) := by grind
   omega
  have h3 := Nat.lt_of_mul_lt_mul_left h2
  exact Nat.lt_of_lt_of_le h3 (Nat.mul_le_mul_left _ hb)
theorem LongT.part {A D n M i : Nat} {R Q : List Nat} (h : LongT A D n M (i + 1) R Q) (hi : i < M) (hD : D < 4294967296 ^ n) :
  val ((R.drop i).take (n + 1)) = val (R.drop i) ∧ val ((R.drop i).take (n + 1)) < 4294967296 * D := by
 have e := Dg R i (by have := h.lenR; omega)
 have h1 := h.wsR.getD i
 have h2 := h.rest
 have h3 : val (R.drop i) < 4294967296 * D := by
  have : 4294967296 * (val (R.drop (i + 1)) + 1) ≤ 4294967296 * D := Nat.mul_le_mul_left _ h2
  omega
 have h4 : val (R.drop i) < 4294967296 ^ (n + 1) := by
  rw [Nat.pow_succ, Nat.mul_comm]
  exact Nat.lt_trans h3 (Nat.mul_lt_mul_of_pos_left hD (by omega))
 have h5 := Oj h4
 exact ⟨h5, by rw [h5]; exact h3⟩
theorem LongT.next {A D n M i : Nat} {R Q S : List Nat} (h : LongT A D n M (i + 1) R Q) (hi : i < M) (hD : D < 4294967296 ^ n) (hD0 : 0 < D)
  (hlen : S.length = R.length) (hws : Ws S) (hfar : ∀ j, j < i ∨ i + (n + 1) ≤ j → S.getD j 0 = R.getD j 0)
  (hs : val ((S.drop i).take (n + 1)) = val ((R.drop i).take (n + 1)) % D) :
  LongT A D n M i S (Q.set i (val ((R.drop i).take (n + 1)) / D)) := by
 obtain ⟨p1, p2⟩ := h.part hi hD
 obtain ⟨h1, h2, h3, h4, h5, h6⟩ := h
 have hq : val ((R.drop i).take (n + 1)) / D < 4294967296 := by rw [Nat.div_lt_iff_lt_mul hD0]; exact p2
 have r1 := Ee (R.drop i) (n + 1) (by rw [List.length_drop]; omega)
 have s1 := Ee (S.drop i) (n + 1) (by rw [List.length_drop]; omega)
 have e1 : val ((S.drop i).drop (n + 1)) = val ((R.drop i).drop (n + 1)) := by
  rw [List.drop_drop, List.drop_drop]
  exact Ko (fun j => by rw [De, De]; exact hfar _ (.inr (by omega)))
 have e2 : 4294967296 ^ (n + 1) * val ((R.drop i).drop (n + 1)) = 0 := by omega
 rw [e1, e2, Nat.add_zero] at s1
 have e3 : val (R.take i) = val (S.take i) := by
  rw [Cr (l := R) (m := S) i (by omega) (by omega) (fun j hj => (hfar j (.inl hj)).symm)]
 have r2 := Ee R i (by omega)
 have s2 := Ee S i (by omega)
 have e4 : val (R.drop i) = val (S.drop i) + val (R.drop i) / D * D := by
  rw [s1, hs, p1, Nat.mul_comm]
  exact (Nat.mod_add_div _ _).symm
 have q1 := Dg (Q.set i (val ((R.drop i).take (n + 1)) / D)) i (by rw [List.length_set]; omega)
 rw [Bn (by omega)] at q1
 have e5 : (Q.set i (val ((R.drop i).take (n + 1)) / D)).drop (i + 1) = Q.drop (i + 1) := by
  rw [List.drop_set, if_pos (by omega)]
 rw [e5] at q1
 refine ⟨by omega, by rw [List.length_set]; exact h2, hws, h4.set hq, ?_, ?_⟩
 ·rw [q1, s2, ← e3, p1]
  rw [r2] at h5
  rw [Nat.pow_succ] at h5
  generalize val (R.drop i) / D = q at *
  generalize val (Q.drop (i + 1)) = V at *
  generalize 4294967296 ^ i = K at *
  rw [e4] at h5
  grind
 ·rw [s1, hs]; exact Nat.mod_lt _ hD0
theorem LongT.fin {A D n M : Nat} {R Q : List Nat} (h : LongT A D n M 0 R Q) (hD0 : 0 < D) : val Q = A / D ∧ val R = A % D := by
 obtain ⟨h1, h2, h3, h4, h5, h6⟩ := h
 rw [Nat.pow_zero, Nat.one_mul, List.drop_zero] at h5
 rw [List.drop_zero] at h6
 have e1 : A / D = val Q := by
  rw [← h5, Nat.add_mul_div_right _ _ hD0, Nat.div_eq_of_lt h6, Nat.zero_add]
 have e2 := Nat.mod_add_div A D
 rw [e1] at e2
 refine ⟨e1.symm, ?_⟩
 rw [Nat.mul_comm] at e2
 omega
/-! ### bit by bit -/
theorem An5 (x s : Nat) (h : x / 2 ^ s % 2 = 0) : x ||| 2 ^ s = x + 2 ^ s := by
 have h1 := Nat.mod_pow_succ (b := 2) (x := x) (k := s)
 rw [h, Nat.mul_zero] at h1
 have h2 := Nat.mod_add_div x (2 ^ (s + 1))
 rw [h1, Nat.add_zero] at h2
 have hl : x % 2 ^ s < 2 ^ s := Nat.mod_lt _ (Nat.two_pow_pos s)
 generalize x % 2 ^ s = l at *
 generalize x / 2 ^ (s + 1) = q at *
 have hp : 2 ^ (s + 1) = 2 * 2 ^ s := by rw [Nat.pow_succ, Nat.mul_comm]
 have e1 : x = 2 ^ (s + 1) * q ||| l := by rw [← Nat.two_pow_add_eq_or_of_lt (by omega), Nat.add_comm]; exact h2.symm
 have e2 : 2 ^ s * 1 ||| l = 2 ^ s + l := by rw [← Nat.two_pow_add_eq_or_of_lt hl, Nat.mul_one]
 rw [Nat.mul_one] at e2
 have e3 : x ||| 2 ^ s = 2 ^ (s + 1) * q ||| (2 ^ s + l) := by rw [e1, Nat.or_assoc, Nat.or_comm l, e2]
 rw [e3, ← Nat.two_pow_add_eq_or_of_lt (by omega)]
 omega
theorem Xq {X v bit : Nat} (hv : 0 < v) (hb : bit < 2) :
  (v ≤ 2 * (X % v) + bit → (2 * X + bit) / v = 2 * (X / v) + 1 ∧ (2 * X + bit) % v = 2 * (X % v) + bit - v) ∧
  (2 * (X % v) + bit < v → (2 * X + bit) / v = 2 * (X / v) ∧ (2 * X + bit) % v = 2 * (X % v) + bit) := by
 have e := Nat.mod_add_div X v
 have hr := Nat.mod_lt X hv
 generalize X % v = r at *
 generalize X / v = q at *
 refine ⟨fun h => ?_, fun h => ?_⟩
 ·have e2 : 2 * X + bit = (2 * r + bit - v) + v * (2 * q + 1) := by
   have : v * (2 * q + 1) = 2 * (v * q) + v := by grind
   omega
  rw [e2, Nat.add_mul_div_left _ _ hv, Nat.add_mul_mod_self_left, Nat.div_eq_of_lt (by omega), Nat.mod_eq_of_lt (by omega)]
  omega
 ·have e2 : 2 * X + bit = (2 * r + bit) + v * (2 * q) := by
   have : v * (2 * q) = 2 * (v * q) := by grind
   omega
  rw [e2, Nat.add_mul_div_left _ _ hv, Nat.add_mul_mod_self_left, Nat.div_eq_of_lt h, Nat.mod_eq_of_lt h]
  omega
structure HalfT (a : List Nat) (v i : Nat) (Q : List Nat) (r : Nat) : Prop where
 len : Q.length = a.length
 ws : Ws Q
 sum : val Q = 2 ^ i * (val a / 2 ^ i / v)
 rest : r = val a / 2 ^ i % v
theorem HalfT.start {a : List Nat} (ha : Ws a) (v : Nat) : HalfT a v (32 * a.length) (List.replicate a.length 0) 0 := by
 have h := Dt ha
 rw [J3] at h
 refine ⟨List.length_replicate, Ws.zeros _, ?_, ?_⟩
 ·rw [Hb, Nat.div_eq_of_lt h, Nat.zero_div, Nat.mul_zero]
 ·rw [Nat.div_eq_of_lt h, Nat.zero_mod]
theorem Xp {a : List Nat} (ha : Ws a) (j s : Nat) (hj : j ≤ a.length) (hs : s < 32) : val a / 2 ^ (32 * j + s) = 2 * (val a / 2 ^ (32 * j + s + 1)) + a.getD j 0 / 2 ^ s % 2 := by
 have h := Pk ha j s hj hs
 rw [← h, Nat.pow_succ, ← Nat.div_div_eq_div_mul]
 omega
theorem HalfT.down {a : List Nat} {v j s : Nat} {Q : List Nat} {r : Nat} (h : HalfT a v (32 * j + s + 1) Q r) (ha : Ws a) (hv : 0 < v) (hj : j < a.length) (hs : s < 32) (hlt : 2 * r + a.getD j 0 / 2 ^ s % 2 < v) :
  HalfT a v (32 * j + s) Q (2 * r + a.getD j 0 / 2 ^ s % 2) := by
 obtain ⟨h1, h2, h3, h4⟩ := h
 have e := Xp ha j s (by omega) hs
 have hb : a.getD j 0 / 2 ^ s % 2 < 2 := Nat.mod_lt _ (by omega)
 rw [h4] at hlt
 obtain ⟨g1, g2⟩ := (Xq (X := val a / 2 ^ (32 * j + s + 1)) hv hb).2 hlt
 refine ⟨h1, h2, ?_, ?_⟩
 ·rw [h3, e, g1, Nat.pow_succ]; grind
 ·rw [e, g2, h4]
theorem HalfT.up {a : List Nat} {v j s : Nat} {Q : List Nat} {r : Nat} (h : HalfT a v (32 * j + s + 1) Q r) (ha : Ws a) (hv : 0 < v) (hj : j < a.length) (hs : s < 32) (hle : v ≤ 2 * r + a.getD j 0 / 2 ^ s % 2) :
  Q.getD j 0 ||| 2 ^ s < 4294967296 ∧ HalfT a v (32 * j + s) (Q.set j (Q.getD j 0 ||| 2 ^ s)) (2 * r + a.getD j 0 / 2 ^ s % 2 - v) := by
 obtain ⟨h1, h2, h3, h4⟩ := h
 have e := Xp ha j s (by omega) hs
 have hb : a.getD j 0 / 2 ^ s % 2 < 2 := Nat.mod_lt _ (by omega)
 rw [h4] at hle
 obtain ⟨g1, g2⟩ := (Xq (X := val a / 2 ^ (32 * j + s + 1)) hv hb).1 hle
 have hbit := Pk h2 j s (by omega) hs
 have hz : val Q / 2 ^ (32 * j + s) % 2 = 0 := by
  rw [h3, Nat.pow_succ, Nat.mul_assoc, Nat.mul_div_cancel_left _ (Nat.two_pow_pos _)]
  omega
 rw [hz] at hbit
 have hor := An5 _ s hbit.symm
 have hlt : Q.getD j 0 ||| 2 ^ s < 4294967296 := Nat.or_lt_two_pow (n := 32) (h2.getD j) (Nat.pow_lt_pow_right (by omega) hs)
 refine ⟨hlt, by rw [List.length_set]; exact h1, h2.set hlt, ?_, ?_⟩
 ·have q1 := Ee Q j (by omega)
  have q2 := Dg Q j (by omega)
  have s1 := Ee (Q.set j (Q.getD j 0 ||| 2 ^ s)) j (by rw [List.length_set]; omega)
  have s2 := Dg (Q.set j (Q.getD j 0 ||| 2 ^ s)) j (by rw [List.length_set]; omega)
  have e7 : (Q.set j (Q.getD j 0 ||| 2 ^ s)).drop (j + 1) = Q.drop (j + 1) := by rw [List.drop_set, if_pos (by omega)]
  rw [Bn (by omega), e7] at s2
  rw [Cr (l := Q.set j _) (m := Q) j (by rw [List.length_set]; omega) (by omega) (fun k hk => Aq (by omega))] at s1
  have e5 : val (Q.set j (Q.getD j 0 ||| 2 ^ s)) = val Q + 2 ^ (32 * j + s) := by
   rw [s1, s2, q1, q2, hor, Nat.pow_add, J3]; grind
  rw [e5, h3, e, g1, Nat.pow_succ]; grind
 ·rw [e, g2, h4]
theorem HalfT.fin {a : List Nat} {v : Nat} {Q : List Nat} {r : Nat} (h : HalfT a v 0 Q r) : val Q = val a / v ∧ r = val a % v := by
 obtain ⟨h1, h2, h3, h4⟩ := h
 rw [Nat.pow_zero, Nat.div_one] at h3 h4
 exact ⟨by omega, h4⟩
def Y4 (hi lo y : Nat) : Nat := if y ≤ hi then 4294967295 else (hi * 4294967296 + lo) / y
theorem Acp (hi lo y : Nat) (w : World) (hl : lo < 4294967296) (hy : y < 4294967296) :
  Cp 268 #[.int .u32 hi, .int .u32 lo, .int .u32 y] w fun e w' => e = .returned (.int .u32 (Y4 hi lo y : Nat)) ∧ ∃ j, w' = w.drewN j := by
 unfold Y4
 by_cases h : y ≤ hi
 ·rw [if_pos h]
  have y1 : (y : Int) ≤ (hi : Int) := by omega
  clear hl hy h
  go_enter Tryz.func268, Tryz.ntmps268
  go_wp2
  go_ret
  exact ⟨rfl, 0, rfl⟩
 ·rw [if_neg h]
  have C1 := Lh (fun W => Sb hi lo y W (by omega) hl hy)
  have y1 : ¬ (y : Int) ≤ (hi : Int) := by omega
  obtain ⟨q, hq⟩ : ∃ q, (hi * 4294967296 + lo) / y = q := ⟨_, rfl⟩
  obtain ⟨r, hr⟩ : ∃ r, (hi * 4294967296 + lo) % y = r := ⟨_, rfl⟩
  rw [hq, hr] at C1
  rw [hq]
  clear hl hy h hq hr
  go_enter Tryz.func268, Tryz.ntmps268
  go_wp2_with fail
  refine Dm (C1.out _) fun j => ?_
  go_wp2
  go_ret
  exact ⟨rfl, j, rfl⟩
def Ait (g : Nat) (R : List Nat) (o : Nat) (b : List Nat) (x : Nat) (w : World) (e : Ending) (w' : World) : Prop :=
 ∃ S q, e = .returned (.int .u32 (q : Nat)) ∧ Row w' g S ∧ TakeT R o b x b.length S q ∧ Only g w w'
theorem Sp (g o n c : Nat) (R : List Nat) (A : Option Addr) (m d : Nat) (b : List Nat) (x B : Nat) (w : World) (hR : Row w g R) (hRw : Ws R) (ho : o + n ≤ R.length) (hmn : m ≤ n) (hbl : b.length = m) (hm0 : 0 < m)
  (hB : RW w B A b) (hgB : B ≤ g) (hx : x < 4294967296) (hm : R.length ≤ 35184372088832) :
  Cp 269 #[.slice (some ⟨g, o, none⟩) n c, .slice A m d, .int .u32 x] w (Ait g R o b x w) := by
 obtain ⟨a, p, rfl, hab, hc⟩ := hB.2 (by omega)
 have HBW := Lh hB.1
 have HRW := Lh hRw
 have HBL := Lh hbl
 have HC := Lh hc
 have HX := Lh hx
 have HR := Lh hR
 have hm1 : (m : Int) ≤ (n : Int) := by omega
 have hn1 : (n : Int) ≤ 35184372088832 := by omega
 have HO := Lh ho
 have hag : a < g := by omega
 have h0' : (0 : Int) ≤ (x : Int) := by omega
 clear hR hRw ho hmn hbl hB hgB hx hm hc hm0
 go_enter Tryz.func269, Tryz.ntmps269
 go_wp2
 go_loopw [14, 7] (fun i v wr => ∃ (k : Nat) (S : List Nat) (q : Nat), i = .int .i64 k ∧ v = .int .u64 (q : Nat) ∧ k ≤ m ∧ Hid (Row wr g S) ∧ Hid (TakeT R o b x k S q) ∧ Only g w wr) (fun i _ _ => m - (intOf i).toNat)
 case atStart => exact ⟨0, R, 0, rfl, rfl, Nat.zero_le _, HR, Lh (TakeT.start o b x HRW.out), Only.refl _ _⟩
 case round =>
  obtain ⟨k, S, q, rfl, rfl, hk, HS, HT, hbw⟩ := hrel
  by_cases hlt : k < m
  ·have hkb : k < b.length := by rw [HBL.out]; exact hlt
   have hok : o + k < R.length := by have := HO.out; omega
   obtain ⟨e1, hnext⟩ := HT.out.next HRW.out HBW.out HX.out hok
   have hS := HS.out.cell (o + k) (by rw [HT.out.len]; exact hok)
   have hfz := HS.out.frozen (o + k)
   have hcl := HC.out k _ (getD_some hkb)
   rw [← hbw.below.cell (p := ⟨a, p + k, none⟩) hag] at hcl
   obtain ⟨l1, l2⟩ := Aa9 (k := k) HBW.out HX.out HT.out.low
   have hset := HS.out.set (o + k) (Tp (R.getD (o + k) 0) (I9 b x k q))
   have HE := Lh (show I9 b x k q = q + b.getD k 0 * x from rfl)
   have u1 := HBW.out.getD k
   have r1 := HRW.out.getD (o + k)
   have q1 := HT.out.low
   rw [e1] at hS
   obtain ⟨t, ht⟩ : ∃ t, I9 b x k q = t := ⟨_, rfl⟩
   obtain ⟨u, hu⟩ : ∃ u, b.getD k 0 = u := ⟨_, rfl⟩
   obtain ⟨r, hr⟩ : ∃ r, R.getD (o + k) 0 = r := ⟨_, rfl⟩
   rw [ht, hu] at HE
   rw [ht] at l2
   rw [hr, ht] at hnext hset
   rw [hu] at hcl l1 u1
   rw [hr] at hS r1
   have low := Abd r t l2
   have C1 := Lh (fun W => show Cp 234 #[.int .u32 (r : Nat), .int .u32 ((t : Int) % 4294967296), .int .u32 0] W fun e w' => e = .returned (.tuple #[.int .u32 (Tp r t : Nat), .int .u32 (St r t : Nat)]) ∧ W = w' from by
    have := Lj r (t % 4294967296) 0 W r1 (by omega) (by omega)
    rw [show ((t % 4294967296 : Nat) : Int) = (t : Int) % 4294967296 by omega] at this
    exact this)
   obtain ⟨W', hW'⟩ : ∃ W', Tp r t = W' := ⟨_, rfl⟩
   obtain ⟨B', hB'⟩ : ∃ B', St r t = B' := ⟨_, rfl⟩
   rw [hW', hB'] at C1 hnext
   rw [hW'] at hset
   rw [hB'] at low
   have hB1 : B' ≤ 1 := by rw [← hB']; unfold St; split <;> omega
   have HNX := Lh hnext
   have k1 : IntKind.u64.wrap (u : Int) = (u : Int) := IntWalk.u64_in _ (by omega)
   have k2 : IntKind.u64.wrap (x : Int) = (x : Int) := IntWalk.u64_in _ (by have := HX.out; omega)
   have k4 : IntKind.u64.wrap ((u : Int) * (x : Int)) = (u : Int) * (x : Int) := IntWalk.u64_in _ (by
    have : ((u * x : Nat) : Int) = (u : Int) * (x : Int) := Int.natCast_mul u x
    omega)
   have k6 : IntKind.u64.wrap ((q : Int) + (u : Int) * (x : Int)) = (t : Int) := by
    have : ((u * x : Nat) : Int) = (u : Int) * (x : Int) := Int.natCast_mul u x
    have := HE.out
    rw [IntWalk.u64_in _ (by omega)]
    omega
   obtain ⟨T, hT⟩ : ∃ T, t / 4294967296 + B' = T := ⟨_, rfl⟩
   have k7 : IntKind.u64.wrap (B' : Int) = (B' : Int) := IntWalk.u64_in _ (by omega)
   have k8 : IntKind.u64.wrap ((t : Int) / 4294967296 + (B' : Int)) = (T : Int) := by rw [IntWalk.u64_in _ (by omega)]; omega
   rw [hT] at HNX
   have HSET := Lh hset
   clear e1 hnext l1 l2 u1 r1 q1 ht hu hr hkb hok hset low hW' hB' hB1 hT HE
   go_wp2_with (go_at_call 234; refine (C1.out _).mono ?_; rintro e w' ⟨rfl, rfl⟩)
   go_roundw
   case rel => exact ⟨k + 1, _, T, by go_num, rfl, by omega, HSET, HNX, hbw.setCell _⟩
   case measure => simp [intOf]; omega
  ·have HZ := Lh (show k = b.length by rw [HBL.out]; omega)
   have q1 := HT.out.low
   have k1 : IntKind.u32.wrap (q : Int) = (q : Int) := IntWalk.u32_in _ (by omega)
   have HT2 := Lh (HZ.out ▸ HT.out : TakeT R o b x b.length S q)
   clear q1
   go_wp2
   go_ret
   exact ⟨S, q, rfl, HS.out, HT2.out, hbw⟩
theorem Zw {P : Program} {f : FuncId} {args : Array Value} {w : World} {n : Nat} {v : Value}
  (h : Calls P f args (w.drewN n) fun e w' => e = .returned v ∧ ∃ j, w' = (w.drewN n).drewN j) : Calls P f args (w.drewN n) fun e w'' => e = .returned v ∧ ∃ m, w'' = w.drewN m :=
 h.mono fun _ _ ⟨he, j, hj⟩ => ⟨he, n + j, by rw [hj, World.drewN_drewN]⟩
def U9 (g : Nat) (R : List Nat) (o : Nat) (b : List Nat) (w : World) (e : Ending) (w' : World) : Prop :=
 ∃ S, e = .returned (.int .u32 ((val ((R.drop o).take (b.length + 1)) / val b : Nat) : Int)) ∧ Row w' g S ∧ S.length = R.length ∧ Ws S ∧ (∀ j, j < o ∨ o + (b.length + 1) ≤ j → S.getD j 0 = R.getD j 0) ∧
  val ((S.drop o).take (b.length + 1)) = val ((R.drop o).take (b.length + 1)) % val b ∧ Only g w w'
theorem Aai {R : List Nat} {o N : Nat} {b : List Nat} (hR : Ws R) (hb : Ws b) (hN : b.length = N + 1) (ho : o + b.length < R.length) (hb0 : 0 < val b) (htop : 0 < b.getD N 0)
  (hP : val ((R.drop o).take (b.length + 1)) < 4294967296 * val b) :
  val ((R.drop o).take (b.length + 1)) / val b ≤ Y4 (R.getD (o + (N + 1)) 0) (R.getD (o + N) 0) (b.getD N 0) ∧ Y4 (R.getD (o + (N + 1)) 0) (R.getD (o + N) 0) (b.getD N 0) < 4294967296 := by
 have hlo := hR.getD (o + N)
 have hy := hb.getD N
 refine ⟨?_, ?_⟩
 ·unfold Y4
  split
  ·have : val ((R.drop o).take (b.length + 1)) / val b < 4294967296 := by rw [Nat.div_lt_iff_lt_mul hb0]; exact hP
   omega
  ·rw [hN]
   refine Ac8 (p' := val ((R.drop o).take N)) (d' := val (b.take N)) (K := 4294967296 ^ N) ?_ ?_ ?_ htop
   ·rw [Bd R o (N + 1) (by omega), Bd R o N (by omega), Nat.pow_succ]
    grind
   ·have := Dt ((hR.drop o).take N)
    rwa [List.length_take, List.length_drop, Nat.min_eq_left (by omega)] at this
   ·have := Br b N (by omega)
    rw [List.take_of_length_le (by omega)] at this
    rw [this]
 ·unfold Y4
  split
  ·omega
  ·next h =>
   rw [Nat.div_lt_iff_lt_mul htop]
   have : (R.getD (o + (N + 1)) 0 + 1) * 4294967296 ≤ b.getD N 0 * 4294967296 := Nat.mul_le_mul_right _ (by omega)
   omega
theorem Afr (g o n c : Nat) (R : List Nat) (A : Option Addr) (N m d : Nat) (b : List Nat) (B : Nat) (w : World) (hR : Row w g R) (hRw : Ws R) (hn : n = N + 2) (hmN : m = N + 1) (ho : o + n ≤ R.length) (hbl : b.length = N + 1)
  (hB : RW w B A b) (hgB : B ≤ g) (hm : R.length ≤ 35184372088832) (hb0 : 0 < val b) (htop : 0 < b.getD N 0) (hP : val ((R.drop o).take (b.length + 1)) < 4294967296 * val b) :
  Cp 260 #[.slice (some ⟨g, o, none⟩) n c, .slice A m d] w (U9 g R o b w) := by
 subst hn
 subst hmN
 obtain ⟨a, p, rfl, hab, hc⟩ := hB.2 (by omega)
 obtain ⟨gh1, gh2⟩ := Aai hRw hB.1 hbl (by omega) hb0 htop hP
 have d1 := hc N _ (getD_some (by omega))
 have d2 := hR.cell (o + (N + 1)) (by omega)
 have d3 := hR.cell (o + N) (by omega)
 have l1 := hRw.getD (o + (N + 1))
 have l2 := hRw.getD (o + N)
 have l3 := hB.1.getD N
 have C1 := Lh (fun W => Acp (R.getD (o + (N + 1)) 0) (R.getD (o + N) 0) (b.getD N 0) W l2 l3)
 obtain ⟨x, hx⟩ : ∃ x, Y4 (R.getD (o + (N + 1)) 0) (R.getD (o + N) 0) (b.getD N 0) = x := ⟨_, rfl⟩
 rw [hx] at C1 gh1 gh2
 obtain ⟨u1, hu1⟩ : ∃ u, R.getD (o + (N + 1)) 0 = u := ⟨_, rfl⟩
 obtain ⟨u2, hu2⟩ : ∃ u, R.getD (o + N) 0 = u := ⟨_, rfl⟩
 obtain ⟨u3, hu3⟩ : ∃ u, b.getD N 0 = u := ⟨_, rfl⟩
 rw [hu1, hu2, hu3] at C1
 rw [hu1] at d2 l1
 rw [hu2] at d3
 rw [hu3] at d1
 have C2 := Lh (fun j => Sp g o (N + 2) c R (some ⟨a, p, none⟩) (N + 1) d b x B (w.drewN j) (hR.drewN j) hRw ho (by omega) hbl (by omega) (hB.drewN j) hgB gh2 hm)
 have HRW := Lh hRw
 have HBL := Lh hbl
 have HB := Lh hB
 have HGB := Lh hgB
 have HO := Lh ho
 have HB0 := Lh hb0
 have HG := Lh gh1
 have HG2 := Lh gh2
 have HU1 := Lh hu1
 have HM := Lh hm
 have hN1 : (N : Int) + 2 ≤ 35184372088832 := by omega
 have hoN1 : (o : Int) + (N : Int) + 2 ≤ 35184372088832 := by omega
 have L1 := Lh l1
 clear hR hRw ho hbl hB hgB hm hb0 htop hP hc gh1 gh2 l1 l2 l3 hx hu1 hu2 hu3 hab
 go_enter Tryz.func260, Tryz.ntmps260
 go_wp2
 go_quiet ((go_at_call 268; exact Zw (C1.out _)))
 go_wp2_with fail
 refine (C2.out _).mono ?_
 rintro e w2 ⟨S, q, rfl, hrow, ht, hb2⟩
 have hbw2 : Only g w w2 := ((Only.refl _ _).drewN nq).trans hb2
 have hql := ht.low
 have hSl := ht.len
 obtain ⟨e1, hst⟩ := ht.step (by rw [HBL.out]; have := HO.out; omega) HRW.out HG2.out HG.out
 rw [HBL.out, HU1.out] at e1 hst
 have hcell := hrow.cell (o + (N + 1)) (by rw [hSl]; have := HO.out; omega)
 have hfz := hrow.frozen (o + (N + 1))
 rw [e1] at hcell
 have C3 := Lh (fun W => show Cp 234 #[.int .u32 (u1 : Nat), .int .u32 (q : Nat), .int .u32 0] W fun e w' => e = .returned (.tuple #[.int .u32 ((u1 + 4294967296 * 2 - q - 0) % 4294967296 : Nat), .int .u32 ((if u1 < q + 0 then 1 else 0 : Nat) : Int)]) ∧ W = w' from Lj u1 q 0 W L1.out hql (by omega))
 obtain ⟨W3, hW3⟩ : ∃ W3, (u1 + 4294967296 * 2 - q - 0) % 4294967296 = W3 := ⟨_, rfl⟩
 obtain ⟨B3, hB3⟩ : ∃ B3, (if u1 < q + 0 then 1 else 0) = B3 := ⟨_, rfl⟩
 rw [hW3, hB3] at C3 hst
 have HROW := Lh (hrow.set (o + (N + 1)) W3)
 have HST := Lh hst
 have HBW := Lh hbw2
 clear hrow ht hb2 hbw2 hql hSl e1 hst hW3 hB3 C1 C2
 go_wp2_with (go_at_call 234; refine (C3.out _).mono ?_; rintro e w' ⟨rfl, rfl⟩)
 go_loopw [6, 8] (fun ov bv wr => ∃ (of bl : Nat) (S : List Nat), ov = .int .u32 (of : Nat) ∧ bv = .int .u32 (bl : Nat) ∧ Hid (Row wr g S) ∧ Hid (StepT R o b S of bl) ∧ Only g w wr) (fun ov _ _ => (intOf ov).toNat)
 case atStart => exact ⟨x, B3, _, rfl, rfl, HROW, HST, HBW.out.setCell _⟩
 case round =>
  obtain ⟨of, bl, T, rfl, rfl, HR2, HT2, hbw⟩ := hrel
  have hbl : bl = 0 ∨ bl = 1 := by have := HT2.out.low; omega
  rcases hbl with h0 | h0
  ·have b0 : ((bl : Int) == 1) = false := by rw [h0]; rfl
   rw [h0] at HT2
   obtain ⟨f1, f2⟩ := HT2.out.fin HB0.out
   have HF1 := Lh f1
   have HF2 := Lh f2
   clear f1 f2 h0
   go_wp2
   go_ret
   exact ⟨T, congrArg (fun k : Nat => Ending.returned (.int .u32 (k : Int))) HF1.out, HR2.out, HT2.out.len, HT2.out.ws, HT2.out.far, HF2.out, hbw⟩
  ·have b0 : ((bl : Int) == 1) = true := by rw [h0]; rfl
   rw [h0] at HT2
   have HBL1 := Lh h0
   obtain ⟨m1, _⟩ := HT2.out.more HB0.out (by rw [HBL.out]; have := HO.out; omega)
   have hofl := HT2.out.word
   have hTl := HT2.out.len
   have C4 := Lh (Qy g o (N + 2) c T (some ⟨a, p, none⟩) (N + 1) d b 1 B wr HR2.out HT2.out.ws (by rw [hTl]; exact HO.out) (by omega) HBL.out (HB.out.below (hbw.below.mono HGB.out)) HGB.out (by omega) (by rw [hTl]; exact HM.out))
   obtain ⟨k, rfl⟩ : ∃ k, of = k + 1 := ⟨of - 1, by omega⟩
   have k1 : IntKind.u32.wrap (((k + 1 : Nat) : Int) - 1) = (k : Int) := by rw [IntWalk.u32_in _ (by omega)]; omega
   have HTL := Lh hTl
   have hkl : (k : Int) < 4294967296 := by omega
   clear m1 hofl hTl h0
   go_wp2_with fail
   refine C4.out.mono ?_
   rintro e w4 ⟨U, q4, rfl, hrow4, hadd, hb4⟩
   have hbw4 : Only g w w4 := hbw.trans hb4
   have hUl := hadd.len
   have hq4 := hadd.low
   obtain ⟨f1, f2, f3⟩ := HT2.out.back HB0.out (by rw [HBL.out]; have := HO.out; omega) hadd
   rw [HBL.out] at f1 f2 f3
   have hcell4 := hrow4.cell (o + (N + 1)) (by rw [hUl, HTL.out]; have := HO.out; omega)
   have hfz4 := hrow4.frozen (o + (N + 1))
   rw [f1] at hcell4
   have htl := HT2.out.ws.getD (o + (N + 1))
   obtain ⟨u4, hu4⟩ : ∃ u, T.getD (o + (N + 1)) 0 = u := ⟨_, rfl⟩
   rw [hu4] at hcell4 f2 f3 htl
   have C5 := Lh (fun W => show Cp 235 #[.int .u32 (u4 : Nat), .int .u32 (q4 : Nat), .int .u32 0] W fun e w' => e = .returned (.tuple #[.int .u32 ((u4 + q4 + 0) % 4294967296 : Nat), .int .u32 ((u4 + q4 + 0) / 4294967296 : Nat)]) ∧ W = w' from Re u4 q4 0 W htl hq4 (by omega))
   obtain ⟨W4, hW4⟩ : ∃ W4, (u4 + q4 + 0) % 4294967296 = W4 := ⟨_, rfl⟩
   obtain ⟨c4, hc4⟩ : ∃ c4, (u4 + q4 + 0) / 4294967296 = c4 := ⟨_, rfl⟩
   rw [hW4, hc4] at C5 f3
   rw [hc4] at f2
   rw [Nat.add_sub_cancel] at f3
   have k2 : IntKind.u32.wrap ((bl : Int) - (c4 : Int)) = ((1 - c4 : Nat) : Int) := by rw [HBL1.out, IntWalk.u32_in _ (by omega)]; omega
   have HROW4 := Lh (hrow4.set (o + (N + 1)) W4)
   have HST4 := Lh f3
   have HBW4 := Lh hbw4
   clear hrow4 hadd hb4 hbw4 hUl hq4 f1 f2 f3 htl hu4 hW4 hc4 C4
   go_wp2_with (go_at_call 235; refine (C5.out _).mono ?_; rintro e w' ⟨rfl, rfl⟩)
   go_roundw
   case rel => exact ⟨k, 1 - c4, _, rfl, rfl, HROW4, HST4, HBW4.out.setCell _⟩
   case measure => simp [intOf]
theorem Bg {fn : Func} {t u v : Tmp} (h : fn.results = #[.tmp t, .tmp u, .tmp v]) (tmps : Array Value) (P : Program) (w : World) :
  (results fn tmps).run P w = .ok (.tuple #[tmps.getD t undef, tmps.getD u undef, tmps.getD v undef]) w := by
 simp [results, h]
def DivT (Q R : List Nat) (t : Nat) (w : World) (e : Ending) (w' : World) : Prop :=
 ∃ A n c C m d, e = .returned (.tuple #[.slice A n c, .slice C m d, .int .i64 (t : Nat)]) ∧ (n = Q.length ∧ n ≤ c ∧ m = R.length ∧ m ≤ d ∧ RW w' w'.heap.size A Q ∧ RW w' w'.heap.size C R) ∧ Below w.heap.size w w'
def Xc (v u : Nat) : Bool := !(An v || An u) && !decide (u = 0)
def Ki (v u : Nat) : List Nat := if Xc v u = true then wds (v / u) else []
def K5 (v u : Nat) : List Nat := if Xc v u = true then wds (v % u) else []
def Hv (v u : Nat) : Nat := if (An v || An u) = true then 3 else if u = 0 then 4 else 0
theorem Ts {v u : Nat} (h : (An v || An u) = false) (hu : 0 < u) : Xc v u = true := by
 unfold Xc; rw [h, decide_eq_false (by omega)]; rfl
theorem DivT.ok {v u : Nat} {w w' : World} {A C : Option Addr} {n c m d : Nat} (h : (An v || An u) = false) (hu : 0 < u) (hn : n = (wds (v / u)).length) (hc : n ≤ c) (hm : m = (wds (v % u)).length) (hd : m ≤ d)
  (hA : RW w' w'.heap.size A (wds (v / u))) (hC : RW w' w'.heap.size C (wds (v % u))) (hb : Below w.heap.size w w') : DivT (Ki v u) (K5 v u) (Hv v u) w (.returned (.tuple #[.slice A n c, .slice C m d, .int .i64 0])) w' := by
 have e0 : Hv v u = 0 := by unfold Hv; rw [if_neg (by rw [h]; simp), if_neg (by omega)]
 unfold Ki K5
 rw [e0, if_pos (Ts h hu), if_pos (Ts h hu)]
 exact ⟨A, n, c, C, m, d, rfl, ⟨hn, hc, hm, hd, hA, hC⟩, hb⟩
theorem DivT.long {v u : Nat} {w w' : World} (h : (An v || An u) = true) (hb : Below w.heap.size w w') : DivT (Ki v u) (K5 v u) (Hv v u) w (.returned (.tuple #[.slice none 0 0, .slice none 0 0, .int .i64 3])) w' := by
 have e0 : Hv v u = 3 := by unfold Hv; rw [if_pos h]
 have e1 : Xc v u = false := by unfold Xc; rw [h]; rfl
 unfold Ki K5
 rw [e0, if_neg (by rw [e1]; simp), if_neg (by rw [e1]; simp)]
 exact ⟨none, 0, 0, none, 0, 0, rfl, ⟨rfl, Nat.le_refl _, rfl, Nat.le_refl _, RW.nil _ _ _, RW.nil _ _ _⟩, hb⟩
theorem DivT.zero {v u : Nat} {w w' : World} (h : (An v || An u) = false) (hu : u = 0) (hb : Below w.heap.size w w') : DivT (Ki v u) (K5 v u) (Hv v u) w (.returned (.tuple #[.slice none 0 0, .slice none 0 0, .int .i64 4])) w' := by
 have e0 : Hv v u = 4 := by unfold Hv; rw [if_neg (by rw [h]; simp), if_pos hu]
 have e1 : Xc v u = false := by unfold Xc; rw [decide_eq_true hu]; simp
 unfold Ki K5
 rw [e0, if_neg (by rw [e1]; simp), if_neg (by rw [e1]; simp)]
 exact ⟨none, 0, 0, none, 0, 0, rfl, ⟨rfl, Nat.le_refl _, rfl, Nat.le_refl _, RW.nil _ _ _, RW.nil _ _ _⟩, hb⟩
theorem An0 (W : World) : RW (W.alloc (.cells #[.int .u32 1] 129)) (W.alloc (.cells #[.int .u32 1] 129)).heap.size (some ⟨W.heap.size, 0, none⟩) [1] := (Ab8 W 1 (by omega)).more (by simp)
theorem Akg (A : Option Addr) (n c : Nat) (l : List Nat) (W : World) (hn : l.length = n) (hm : n ≤ 4096) (h : RW W W.heap.size A l) :
  Cp 137 #[.slice A n c, .slice (some ⟨W.heap.size, 0, none⟩) 1 1] (W.alloc (.cells #[.int .u32 1] 129)) (SlPost (wds (val l + 1)) (W.alloc (.cells #[.int .u32 1] 129))) := by
 have g := An0 W
 have h2 : RW (W.alloc (.cells #[.int .u32 1] 129)) (W.alloc (.cells #[.int .u32 1] 129)).heap.size A l := h.step ((Below.refl _ _).alloc (Nat.le_refl _) _)
 generalize W.alloc (.cells #[.int .u32 1] 129) = W' at *
 exact E9 A (some ⟨W.heap.size, 0, none⟩) n c 1 1 l [1] W' hn (by omega) h2 rfl (by omega) g
theorem Aoa (y s : Nat) (hy : y < 4294967296) (hs : s < 32) : bits BinOp.or IntKind.u32 (y : Int) (2 ^ s % 4294967296) = ((y ||| 2 ^ s : Nat) : Int) := by
 have h : 2 ^ s < 4294967296 := Nat.pow_lt_pow_right (n := 32) (by omega) hs
 rw [← S7 y (2 ^ s) hy h, show ((2 : Int) ^ s) = ((2 ^ s : Nat) : Int) by rw [Int.natCast_pow]; rfl]
 generalize 2 ^ s = P at *
 rw [show (P : Int) % 4294967296 = (P : Int) by omega]
theorem Aav (A C : Option Addr) (n c m d : Nat) (a b : List Nat) (w : World) (hn : a.length = n) (hm : n ≤ 1024) (h : RW w w.heap.size A a)
  (gn : b.length = m) (gm : m ≤ 1024) (g : RW w w.heap.size C b) (hnb : nrm b = b) (hb0 : 0 < val b) :
  Cp 155 #[.slice A n c, .slice C m d] w (fun e w' => ∃ A2 n2 c2 C2 m2 d2, e = .returned (.tuple #[.slice A2 n2 c2, .slice C2 m2 d2]) ∧ (n2 = (wds (val a / val b)).length ∧ n2 ≤ c2 ∧ m2 = (wds (val a % val b)).length ∧ m2 ≤ d2 ∧ RW w' w'.heap.size A2 (wds (val a / val b)) ∧ RW w' w'.heap.size C2 (wds (val a % val b))) ∧ Below w.heap.size w w') := by
 have hmk := run_make_row' (P := Tryz.prog) 121 129 (.int .u32 0) 4 Tryz.underlying121 Ef rfl .i64 .i64 n (by omega) (by omega) w
 have HROW := Lh (Row.made w n)
 have HBL := Lh (show Below w.heap.size w (w.alloc (.cells (madeCells #[.int .u32 0] n) 129)) from (Below.refl _ _).alloc (Nat.le_refl _) _)
 have HA := Lh h
 have HB := Lh g
 have HN := Lh hn
 have HM := Lh gn
 have HB0 := Lh hb0
 have HNB := Lh hnb
 have HST := Lh (show HalfT a (val b) (32 * n) (List.replicate n 0) 0 by rw [← hn]; exact HalfT.start h.1 _)
 have hn1 : (n : Int) ≤ 1024 := by omega
 have hm1 : (m : Int) ≤ 1024 := by omega
 have hbw : b = wds (val b) := by rw [← Bo g.1, hnb]
 have HBW := Lh (show (wds (val b)).length ≤ 1024 by rw [← hbw, gn]; exact gm)
 clear h g hn gn hb0 hnb hm gm hbw
 go_enter Tryz.func155, Tryz.ntmps155
 go_wp2
 clear hmk
 go_loopw [7, 8] (fun v i wr => ∃ (k : Nat) (Q : List Nat) (r : Nat), i = .int .i64 ((k : Int) - 1) ∧ k ≤ 32 * n ∧ Hid (Sl wr wr.heap.size v (wds r)) ∧ Hid (Row wr w.heap.size Q) ∧ Hid (HalfT a (val b) k Q r) ∧ Below w.heap.size w wr) (fun _ i _ => (intOf i + 1).toNat)
 case atStart => exact ⟨32 * n, _, 0, by rw [Int.natCast_mul]; rfl, Nat.le_refl _, Lh (Sl.nil _ _ _), HROW, HST, HBL.out⟩
 case round =>
  obtain ⟨k, Q, r, rfl, hk, HS, HR, HT, hbw⟩ := hrel
  obtain ⟨A0, c0, rfl, hc0, hr0⟩ := HS.out
  obtain ⟨L0, hL0⟩ : ∃ L, (wds r).length = L := ⟨_, rfl⟩
  rw [hL0] at hc0 ⊢
  have hQl : Q.length = n := by rw [HT.out.len, HN.out]
  by_cases h0 : k = 0
  ·subst h0
   obtain ⟨f1, f2⟩ := HT.out.fin
   have hlt := HR.out.lt
   have C1 := Lh ((Ce (some ⟨w.heap.size, 0, none⟩) n n Q wr.heap.size wr hQl (Nat.le_refl _) (by omega) ((HR.out.rw0 HT.out.ws).more hlt)).mono (fun e w' x => SlPost.of HT.out.ws.nrm x))
   rw [Bo HT.out.ws, f1] at C1
   rw [f2] at hr0 hL0
   have HR0 := Lh hr0
   have HC0 := Lh hc0
   have HL0 := Lh hL0
   clear f1 f2 hlt hr0 hc0 hL0 hQl
   go_wp2_with fail
   refine C1.out.mono ?_
   rintro e w2 ⟨v2, rfl, ⟨A2, c2, rfl, hc2, r2⟩, b2⟩
   have H2 := Lh r2
   have H3 := Lh hc2
   have H4 := Lh (HR0.out.step b2)
   have H5 := Lh (Aa hbw b2)
   clear r2 hc2 b2 C1
   go_wp2
   go_ret2
   exact ⟨A2, _, c2, A0, L0, c0, rfl, ⟨rfl, H3.out, HL0.out.symm, HC0.out, H2.out, H4.out⟩, H5.out⟩
  ·obtain ⟨I, rfl⟩ : ∃ I, k = I + 1 := ⟨k - 1, by omega⟩
   rw [show (((I + 1 : Nat) : Int) - 1) = (I : Int) by omega]
   obtain ⟨j, s, hjs, hs⟩ : ∃ j s, I = 32 * j + s ∧ s < 32 := ⟨I / 32, I % 32, by omega, by omega⟩
   have hjn : j < n := by omega
   have hja : j < a.length := by rw [HN.out]; exact hjn
   have hrv : r < val b := by have := HT.out.rest; rw [this]; exact Nat.mod_lt _ HB0.out
   have l0 : L0 ≤ 1024 := by have := Xz (Nat.le_of_lt hrv); have := HBW.out; omega
   rw [hjs] at HT
   have HRW := Lh (fun W (hb : Below w.heap.size w W) => HB.out.step hb)
   obtain ⟨ab, ao, rfl, hab, hca⟩ := HA.out.2 (by omega)
   have hcl := hca j _ (getD_some hja)
   have hxl := HA.out.1.getD j
   obtain ⟨x, hx⟩ : ∃ x, a.getD j 0 = x := ⟨_, rfl⟩
   obtain ⟨bt, hbt⟩ : ∃ bt, x / 2 ^ s % 2 = bt := ⟨_, rfl⟩
   have hb2 : bt < 2 := by omega
   have hba := Ui x s (by rw [← hx]; exact hxl)
   rw [hbt] at hba
   have hup := fun h => (HT.out.up HA.out.1 HB0.out hja hs h)
   have hdown := fun h => (HT.out.down HA.out.1 HB0.out hja hs h)
   rw [hx, hbt] at hup hdown
   rw [hx] at hcl
   obtain ⟨L1, hL1⟩ : ∃ L, (wds (2 * r)).length = L := ⟨_, rfl⟩
   have l1 : L1 ≤ 1025 := by have := Ls r r; rw [← Nat.two_mul, hL1] at this; omega
   obtain ⟨r2, hr2⟩ : ∃ r2, 2 * r + bt = r2 := ⟨_, rfl⟩
   obtain ⟨L2, hL2⟩ : ∃ L, (wds r2).length = L := ⟨_, rfl⟩
   have l2 : L2 ≤ 1026 := by
    have := Ls (2 * r) bt
    have h3 : (wds bt).length ≤ 1 := Bl (by omega)
    rw [hr2] at this; omega
   obtain ⟨L3, hL3⟩ : ∃ L, (wds (r2 - val b)).length = L := ⟨_, rfl⟩
   rw [hr2] at hup hdown
   have K1 := Lh (show Cp 157 #[.slice A0 L0 c0, .int .i64 1] wr (Ji (wds (2 * r)) L1 wr) from by
    have := Aie A0 L0 c0 1 (wds r) wr hL0 hc0 (by omega) hr0 (by omega)
    rw [Ae, Nat.pow_one, Nat.mul_comm] at this
    exact this.mono fun _ _ y => y.told hL1)
   have K2 := Lh (fun W A2 c2 (r1 : RW W W.heap.size A2 (wds (2 * r))) => show bt = 1 → Cp 137 #[.slice A2 L1 c2, .slice (some ⟨W.heap.size, 0, none⟩) 1 1] (W.alloc (.cells #[.int .u32 1] 129)) (Ji (wds r2) L2 (W.alloc (.cells #[.int .u32 1] 129))) from fun hb1 => by
    have := Akg A2 L1 c2 (wds (2 * r)) W hL1 (by omega) r1
    rw [Ae, show 2 * r + 1 = r2 by omega] at this
    exact this.mono fun _ _ y => y.told hL2)
   have K3 := Lh (fun W A2 c2 (hb : Below w.heap.size w W) (r1 : RW W W.heap.size A2 (wds r2)) => Aic A2 C L2 c2 m d (wds r2) b W.heap.size W.heap.size W hL2 (by omega) r1 HM.out (by omega) (HRW.out W hb))
   have K4 := Lh (fun W A2 c2 (hb : Below w.heap.size w W) (r1 : RW W W.heap.size A2 (wds r2)) => show val b ≤ r2 → Cp 209 #[.slice A2 L2 c2, .slice C m d] W (Amj (wds (r2 - val b)) L3 W) from fun hle => by
    have hmL : m ≤ L2 := by
     have h1 := Xz hle
     have h2 : b = wds (val b) := by rw [← Bo HB.out.1, HNB.out]
     rw [← h2, HM.out, hL2] at h1
     exact h1
    have := Agz A2 C L2 c2 m d (wds r2) b W hL2 (by omega) r1 HM.out hmL (HRW.out W hb) (by rw [Ae]; exact hle)
    rw [Ae] at this
    exact this.mono fun _ _ y => y.toldN (Bh _) hL3)
   have HL1 := Lh hL1
   have HR2E := Lh hr2
   have HL2 := Lh hL2
   have HL3 := Lh hL3
   obtain ⟨y, hy⟩ : ∃ y, Q.getD j 0 = y := ⟨_, rfl⟩
   have hcell := fun (W : World) (hb : Row W w.heap.size Q) => hb.cell j (by rw [hQl]; exact hjn)
   have hfz := fun (W : World) (hb : Row W w.heap.size Q) => hb.frozen j
   rw [hy] at hup hcell
   have hyl := HT.out.ws.getD j
   rw [hy] at hyl
   have HW := Lh (show bits BinOp.or IntKind.u32 (y : Int) (2 ^ s % 4294967296) = ((y ||| 2 ^ s : Nat) : Int) from Aoa y s hyl hs)
   have HCELL := Lh hcell
   have HFZ := Lh hfz
   have HUP := Lh hup
   have HDOWN := Lh hdown
   have HCA := Lh (fun (W : World) (hb : Below w.heap.size w W) => (hb.cell (p := ⟨ab, ao + j, none⟩) hab).trans hcl)
   have e3 : (I : Int) / 32 = (j : Int) := by omega
   have e4 : (I : Int) % 32 = (s : Int) := by omega
   have hj1 : (j : Int) < (n : Int) := by omega
   have hs0 : (0 : Int) ≤ (s : Int) := by omega
   have hI0 : (0 : Int) ≤ (I : Int) := by omega
   have hI2 : (I : Int) ≤ 32768 := by omega
   have hI3 : I ≤ 32 * n := by omega
   have HS32 := Lh hs
   have HJS := Lh hjs
   have HBT := Lh hb2
   have HRLT := Lh HR.out.lt
   clear hk h0 hjs hjn hja hrv l0 l1 l2 hL0 hc0 hr0 hL1 hr2 hL2 hL3 hca hxl hx hbt hcell hfz hup hdown hQl hcl hab hy hyl
   cases hbit : decide (bt = 1)
   ·have hbe : bt = 0 := by have := of_decide_eq_false hbit; have := HBT.out; omega
    have hT : (bits BinOp.and IntKind.u32 ((x : Int) / 2 ^ s) 1 == 1) = false := by rw [hba, hbe]; rfl
    obtain rfl : 2 * r = r2 := by rw [← HR2E.out, hbe, Nat.add_zero]
    obtain rfl : L1 = L2 := by rw [← HL1.out, ← HL2.out]
    clear hba hbe hbit hs hb2 K2
    go_wp2_with fail
    refine K1.out.mono ?_
    rintro e w3 ⟨A3, c3, rfl, ⟨hc3, r3⟩, b1⟩
    have B3 := Aa hbw b1
    have hcx := HCA.out w3 B3
    have R3 := HR.out.below HRLT.out b1
    have D3 := K3.out w3 A3 c3 B3 r3
    have D4 := Lh (K4.out w3 A3 c3 B3 r3)
    clear K1 K3 K4 b1
    by_cases hle : val b ≤ (2 * r)
    ·have ho : (0 : Int) ≤ ord (wds (2 * r)) b := by
      rcases Nat.lt_or_ge (val b) (2 * r) with h1 | h1
      ·rw [Kv (by rw [Ae]; exact h1)]; omega
      ·rw [Pu (by rw [Ae]; omega)]; omega
     obtain ⟨o, hoe⟩ : ∃ o, ord (wds (2 * r)) b = o := ⟨_, rfl⟩
     rw [hoe] at ho D3
     have D5 := D4.out hle
     obtain ⟨u1, u2⟩ := HUP.out hle
     have HU2 := Lh u2
     clear hle hoe u1 u2 D4 r3
     go_wp2_with fail
     refine D3.mono ?_
     rintro e w' ⟨rfl, rfl⟩
     go_wp2_with fail
     refine D5.mono ?_
     rintro e w5 ⟨A5, c5, rfl, ⟨hc5, r5, q5⟩, b5⟩
     have B5 := Aa B3 b5
     have R5 := R3.below R3.lt b5
     have hcell := HCELL.out w5 R5
     have hfz := HFZ.out w5 R5
     have HR5 := Lh (R5.set j (y ||| 2 ^ s))
     have HS5 := Lh (r5.other (g := w.heap.size) (j := j) (fun ad h => Nat.lt_of_lt_of_le R3.lt (q5 ad h)) (.int .u32 ((y ||| 2 ^ s : Nat) : Int)))
     have HC5 := Lh hc5
     have HB5 := Lh (B5.setCell (p := ⟨w.heap.size, j, none⟩) (Nat.le_refl _) (.int .u32 ((y ||| 2 ^ s : Nat) : Int)))
     clear r5 q5 b5 R5 B5 hc5 D3 D5 B3 R3
     go_wp2
     rw [HW.out]
     refine ⟨⟨I, _, (2 * r) - val b, rfl, by omega, Lh ⟨A5, c5, by rw [HL3.out], by rw [HL3.out]; exact HC5.out, ?_⟩, HR5, by rw [HJS.out]; exact HU2, HB5.out⟩, ?_⟩
     ·have := HS5.out
      rw [show (w5.setCell ⟨w.heap.size, j, none⟩ (.int .u32 ((y ||| 2 ^ s : Nat) : Int))).heap.size = w5.heap.size by simp [World.setCell]]
      exact this
     ·simp [intOf]
    ·have ho : ¬ (0 : Int) ≤ ord (wds (2 * r)) b := by rw [Ks (by rw [Ae]; omega)]; omega
     obtain ⟨o, hoe⟩ : ∃ o, ord (wds (2 * r)) b = o := ⟨_, rfl⟩
     rw [hoe] at ho D3
     have HD2 := Lh (HDOWN.out (by omega))
     have HS3 := Lh r3
     have HC3 := Lh hc3
     clear hle hoe D4 r3 hc3
     go_wp2_with fail
     refine D3.mono ?_
     rintro e w' ⟨rfl, rfl⟩
     go_wp2
     go_roundw
     case rel => exact ⟨I, Q, (2 * r), by go_num, by omega, Lh ⟨A3, c3, by rw [HL2.out], by rw [HL2.out]; exact HC3.out, HS3.out⟩, Lh R3, by rw [HJS.out]; exact HD2, B3⟩
     case measure => simp [intOf]
   ·have hbe : bt = 1 := of_decide_eq_true hbit
    have hT : (bits BinOp.and IntKind.u32 ((x : Int) / 2 ^ s) 1 == 1) = true := by rw [hba, hbe]; rfl
    have K2b := Lh (fun W A2 c2 r1 => K2.out W A2 c2 r1 hbe)
    clear hba hbe hbit hs hb2 K2
    go_wp2_with fail
    refine K1.out.mono ?_
    rintro e w1 ⟨A1, c1, rfl, ⟨hc1, r1⟩, b1⟩
    have B1 := Aa hbw b1
    have hcx := HCA.out w1 B1
    have D2 := K2b.out w1 A1 c1 r1
    have R1 := HR.out.below HRLT.out b1
    have B2 : Below w.heap.size w (w1.alloc (.cells #[.int .u32 1] 129)) := B1.alloc B1.size _
    have R2 : Row (w1.alloc (.cells #[.int .u32 1] 129)) w.heap.size Q := R1.below R1.lt ((Below.refl _ _).alloc (Nat.le_refl _) _)
    have HB2 := Lh B2
    have HR2 := Lh R2
    clear r1 b1 B2 R2 R1 K1 K2b hc1
    go_wp2_with fail
    refine D2.mono ?_
    rintro e w3 ⟨A3, c3, rfl, ⟨hc3, r3⟩, b3⟩
    have B3 := Aa HB2.out b3
    have R3 := HR2.out.below HR2.out.lt b3
    have D3 := K3.out w3 A3 c3 B3 r3
    have D4 := Lh (K4.out w3 A3 c3 B3 r3)
    clear K3 K4 b3
    by_cases hle : val b ≤ r2
    ·have ho : (0 : Int) ≤ ord (wds r2) b := by
      rcases Nat.lt_or_ge (val b) r2 with h1 | h1
      ·rw [Kv (by rw [Ae]; exact h1)]; omega
      ·rw [Pu (by rw [Ae]; omega)]; omega
     obtain ⟨o, hoe⟩ : ∃ o, ord (wds r2) b = o := ⟨_, rfl⟩
     rw [hoe] at ho D3
     have D5 := D4.out hle
     obtain ⟨u1, u2⟩ := HUP.out hle
     have HU2 := Lh u2
     clear hle hoe u1 u2 D4 r3
     go_wp2_with fail
     refine D3.mono ?_
     rintro e w' ⟨rfl, rfl⟩
     go_wp2_with fail
     refine D5.mono ?_
     rintro e w5 ⟨A5, c5, rfl, ⟨hc5, r5, q5⟩, b5⟩
     have B5 := Aa B3 b5
     have R5 := R3.below R3.lt b5
     have hcell := HCELL.out w5 R5
     have hfz := HFZ.out w5 R5
     have HR5 := Lh (R5.set j (y ||| 2 ^ s))
     have HS5 := Lh (r5.other (g := w.heap.size) (j := j) (fun ad h => Nat.lt_of_lt_of_le R3.lt (q5 ad h)) (.int .u32 ((y ||| 2 ^ s : Nat) : Int)))
     have HC5 := Lh hc5
     have HB5 := Lh (B5.setCell (p := ⟨w.heap.size, j, none⟩) (Nat.le_refl _) (.int .u32 ((y ||| 2 ^ s : Nat) : Int)))
     clear r5 q5 b5 R5 B5 hc5 D3 D5 B3 R3
     go_wp2
     rw [HW.out]
     refine ⟨⟨I, _, r2 - val b, rfl, by omega, Lh ⟨A5, c5, by rw [HL3.out], by rw [HL3.out]; exact HC5.out, ?_⟩, HR5, by rw [HJS.out]; exact HU2, HB5.out⟩, ?_⟩
     ·have := HS5.out
      rw [show (w5.setCell ⟨w.heap.size, j, none⟩ (.int .u32 ((y ||| 2 ^ s : Nat) : Int))).heap.size = w5.heap.size by simp [World.setCell]]
      exact this
     ·simp [intOf]
    ·have ho : ¬ (0 : Int) ≤ ord (wds r2) b := by rw [Ks (by rw [Ae]; omega)]; omega
     obtain ⟨o, hoe⟩ : ∃ o, ord (wds r2) b = o := ⟨_, rfl⟩
     rw [hoe] at ho D3
     have HD2 := Lh (HDOWN.out (by omega))
     have HS3 := Lh r3
     have HC3 := Lh hc3
     clear hle hoe D4 r3 hc3
     go_wp2_with fail
     refine D3.mono ?_
     rintro e w' ⟨rfl, rfl⟩
     go_wp2
     go_roundw
     case rel => exact ⟨I, Q, r2, by go_num, by omega, Lh ⟨A3, c3, by rw [HL2.out], by rw [HL2.out]; exact HC3.out, HS3.out⟩, Lh R3, by rw [HJS.out]; exact HD2, B3⟩
     case measure => simp [intOf]
theorem Ad9 {b : List Nat} {N : Nat} (hb : Ws b) (hN : b.length = N + 1) (hnb : nrm b = b) : 0 < b.getD N 0 ∧ 0 < Lib.bitLen (b.getD N 0) ∧ Lib.bitLen (b.getD N 0) ≤ 32 ∧ b.getD N 0 < 2 ^ Lib.bitLen (b.getD N 0) := by
 have h0 : nrm b ≠ [] := by rw [hnb]; intro e; rw [e] at hN; simp at hN
 have h1 := Ag8 h0
 rw [hnb, hN, Nat.add_sub_cancel] at h1
 have h2 := hb.getD N
 have h3 := Gl _ h2
 obtain ⟨b1, b2, b3⟩ := Lib.bitLenAux_bounds 64 (b.getD N 0) (by omega) h1
 exact ⟨by omega, b1, h3, b3⟩
theorem ShlP.exact {R : List Nat} {o : Nat} {a : List Nat} {s N : Nat} {S : List Nat} (h : ShlP R o a s (N + 1) S) (hn : a.length = N + 1) (ht : a.getD N 0 < 2 ^ (32 - s)) : val ((S.drop o).take (N + 1)) = 2 ^ s * val a := by
 have h4 := h.sum
 have e : Ex a s (N + 1) = 0 := by
  unfold Ex
  rw [if_neg (by omega), Nat.add_sub_cancel]
  exact Nat.div_eq_of_lt ht
 rw [e, Nat.mul_zero, Nat.add_zero, Bf (l := a) (by omega)] at h4
 exact h4
theorem Ak4 {S : List Nat} {N : Nat} (hS : Ws S) (hl : S.length = N + 1) (hv : 4294967296 ^ N ≤ val S) : 0 < S.getD N 0 := by
 rcases Nat.eq_zero_or_pos (S.getD N 0) with h | h
 ·have e := Br S N (by omega)
  rw [List.take_of_length_le (by omega), h, Nat.mul_zero, Nat.add_zero] at e
  have := Dt (hS.take N)
  rw [List.length_take, Nat.min_eq_left (by omega)] at this
  omega
 ·exact h
def Oo (n M va vb : Nat) (w : World) (e : Ending) (w' : World) : Prop :=
 ∃ S T g1 g2, e = .returned (.tuple #[.slice (some ⟨g2, 0, none⟩) M M, .slice (some ⟨g1, 0, none⟩) (n + 1) (n + 1)]) ∧ Row w' g2 S ∧ Row w' g1 T ∧ S.length = M ∧ T.length = n + 1 ∧ Ws S ∧ Ws T ∧ val S = va / vb ∧ val T = va % vb ∧ Below w.heap.size w w'
theorem Pd (A C : Option Addr) (n c m M N d : Nat) (a b : List Nat) (w : World) (hn : a.length = n) (hm : n ≤ 1024) (h : RW w w.heap.size A a)
  (gn : b.length = m) (gN : m = N + 1) (g : RW w w.heap.size C b) (hnb : nrm b = b) (hM : n + 1 = M + m) (hM0 : 0 < M) :
  Cp 247 #[.slice A n c, .slice C m d] w (Oo n M (val a) (val b) w) := by
 subst gN
 obtain ⟨t1, t2, t3, t4⟩ := Ad9 g.1 gn hnb
 have h0 : nrm b ≠ [] := by rw [hnb]; intro e; rw [e] at gn; simp at gn
 have hge := O9 h0
 rw [hnb, gn, Nat.add_sub_cancel] at hge
 obtain ⟨cb, coff, rfl, hcb, hcc⟩ := g.2 (by omega)
 have d1 := hcc N _ (getD_some (by omega))
 have htl := g.1.getD N
 obtain ⟨u, hu⟩ : ∃ u, b.getD N 0 = u := ⟨_, rfl⟩
 rw [hu] at d1 t1 t2 t3 t4 htl
 obtain ⟨L, hL⟩ : ∃ L, Lib.bitLen u = L := ⟨_, rfl⟩
 have C1 := Lh (fun W => show Cp 259 #[.int .u32 (u : Nat)] W fun e w' => e = .returned (.int .i64 (32 - (L : Int))) ∧ W = w' from by
  have := Tryz.bits_LeadingZeros32 (u : Int) W (by omega) (by omega)
  rw [Int.toNat_natCast, hL] at this; exact this.mono fun _ _ ⟨x, y⟩ => ⟨x, y.symm⟩)
 rw [hL] at t2 t3 t4
 obtain ⟨s, hs⟩ : ∃ s, 32 - L = s := ⟨_, rfl⟩
 have hs2 : 32 - (L : Int) = (s : Int) := by omega
 rw [hs2] at C1
 have hs32 : s < 32 := by omega
 have HT4 := Lh (show b.getD N 0 < 2 ^ (32 - s) by rw [hu, show 32 - s = L by omega]; exact t4)
 have hN1 : (N : Int) ≤ 1024 := by omega
 have hn1 : (n : Int) ≤ 1024 := by omega
 have hM1 : (1 : Int) ≤ (M : Int) := by omega
 have hM2 : (M : Int) ≤ 1024 := by omega
 have HA := Lh h
 have HB := Lh g
 have HGB := Lh (show (b.length = N + 1 ∧ a.length = n) from ⟨gn, hn⟩)
 have HGE := Lh hge
 have HM := Lh hM
 have HM0 := Lh hM0
 have hm1 := run_make_row' (P := Tryz.prog) 121 129 (.int .u32 0) 4 Tryz.underlying121 Ef rfl .i64 .i64 (N + 1) (by omega) (by omega) w
 rw [show ((N + 1 : Nat) : Int) = (N : Int) + 1 by omega] at hm1
 have hm2 := fun W => run_make_row' (P := Tryz.prog) 121 129 (.int .u32 0) 4 Tryz.underlying121 Ef rfl .i64 .i64 (n + 1) (by omega) (by omega) W
 rw [show ((n + 1 : Nat) : Int) = (n : Int) + 1 by omega] at hm2
 have hm3 := fun W => run_make_row' (P := Tryz.prog) 121 129 (.int .u32 0) 4 Tryz.underlying121 Ef rfl .i64 .i64 M (by omega) (by omega) W
 have HM2 := Lh hm2
 have HM3 := Lh hm3
 have hMe0 : IntKind.i64.wrap ((n : Int) - ((N : Int) + 1)) = (n : Int) - ((N : Int) + 1) := IntWalk.i64_in _ (by omega)
 have hMe : IntKind.i64.wrap (((n : Int) - ((N : Int) + 1)) + 1) = (M : Int) := by rw [IntWalk.i64_in _ (by omega)]; omega
 have hR1 := Row.made w (N + 1)
 have hB1 : Below w.heap.size w (w.alloc (.cells (madeCells #[.int .u32 0] (N + 1)) 129)) := (Below.refl _ _).alloc (Nat.le_refl _) _
 have hz1 : (w.alloc (.cells (madeCells #[.int .u32 0] (N + 1)) 129)).heap.size = w.heap.size + 1 := by simp
 obtain ⟨w1, hw1⟩ : ∃ w1, w.alloc (.cells (madeCells #[.int .u32 0] (N + 1)) 129) = w1 := ⟨_, rfl⟩
 rw [hw1] at hR1 hB1 hz1 hm1
 have C2 := Lh (S9 w.heap.size 0 (N + 1) (N + 1) s (List.replicate (N + 1) 0) (some ⟨cb, coff, none⟩) (N + 1) d b w.heap.size w1 hR1 (Ws.zeros _) (by rw [List.length_replicate]; omega) gn (by omega) (by omega) (g.below hB1) (Nat.le_refl _) hs32)
 have HB1 := Lh hB1
 have HZ1 := Lh hz1
 clear t1 t2 t3 t4 hu hL hs hs2 htl hcc h g hn gn hge hM hM0 hnb h0 hm hm2 hm3 hR1 hB1 hz1 hw1
 go_enter Tryz.func247, Tryz.ntmps247
 go_wp2_with fail
 refine Sm (C1.out _) ?_
 go_wp2_with fail
 refine C2.out.mono ?_
 rintro e w2 ⟨rfl, D, hD, hRD, hbD⟩
 have hB2 : Below w.heap.size w w2 := HB1.out.trans hbD
 have hg0 := hRD.lt
 have hDl : D.length = N + 1 := by rw [hD.len, List.length_replicate]
 have hDv : val D = 2 ^ s * val b := by
  have := hD.exact HGB.out.1 HT4.out
  rw [List.drop_zero, List.take_of_length_le (by omega)] at this
  exact this
 have hDw := hD.ws
 have hm2 := HM2.out w2
 have hR2 := Row.made w2 (n + 1)
 have hB3 : Below w.heap.size w (w2.alloc (.cells (madeCells #[.int .u32 0] (n + 1)) 129)) := hB2.alloc hB2.size _
 have hB23 : Below w2.heap.size w2 (w2.alloc (.cells (madeCells #[.int .u32 0] (n + 1)) 129)) := (Below.refl _ _).alloc (Nat.le_refl _) _
 have C3 := Lh (S9 w2.heap.size 0 (n + 1) (n + 1) s (List.replicate (n + 1) 0) A n c a w.heap.size _ hR2 (Ws.zeros _) (by rw [List.length_replicate]; omega) HGB.out.2 (by omega) (by omega) (HA.out.below hB3) hB2.size hs32)
 have HRD := Lh (hRD.below hg0 hB23)
 have HD := Lh (show D.length = N + 1 ∧ val D = 2 ^ s * val b ∧ Ws D from ⟨hDl, hDv, hDw⟩)
 have HB3 := Lh hB3
 have HG0 := Lh hg0
 clear hD hRD hbD hB2 hg0 hDl hDv hDw hR2 hB3 hB23 hm1 C1 C2
 go_wp2_with fail
 refine C3.out.mono ?_
 rintro e w4 ⟨rfl, R, hR, hRR, hbR⟩
 have hB4 : Below w.heap.size w w4 := HB3.out.trans (hbR.mono (Nat.le_of_lt HG0.out))
 have hg1 := hRR.lt
 have hRl : R.length = n + 1 := by rw [hR.len, List.length_replicate]
 have hRv : val R = 2 ^ s * val a := by
  have := hR.whole (by rw [HGB.out.2]; omega)
  rw [List.drop_zero, List.take_of_length_le (by omega)] at this
  exact this
 have hRw := hR.ws
 have hRD4 : Row w4 w.heap.size D := HRD.out.below HG0.out hbR
 have hm3 := HM3.out w4
 have hQ5 := Row.made w4 M
 have hB5 : Below w.heap.size w (w4.alloc (.cells (madeCells #[.int .u32 0] M) 129)) := hB4.alloc hB4.size _
 have hB45 : Below w4.heap.size w4 (w4.alloc (.cells (madeCells #[.int .u32 0] M) 129)) := (Below.refl _ _).alloc (Nat.le_refl _) _
 have HQ5 := Lh hQ5
 have HR5 := Lh (hRR.below hg1 hB45)
 have HD5 := Lh (hRD4.below (Nat.lt_trans HG0.out hg1) hB45)
 have HB5 := Lh hB5
 have HG1 := Lh hg1
 have hlong := LongT.start (va := val a) (vb := val b) (s := s) (la := n) (n := N + 1) (M := M) hRw (by rw [hRl]; exact HM.out) HM.out (by omega) (by have := Dt HA.out.1; rw [HGB.out.2] at this; exact this) (by rw [Nat.add_sub_cancel]; exact HGE.out) hRv
 have HLONG := Lh hlong
 have hDp : 0 < val b := Nat.lt_of_lt_of_le (Nat.pow_pos (by omega)) HGE.out
 have HDP := Lh (show 0 < 2 ^ s * val b ∧ 2 ^ s * val b < 4294967296 ^ (N + 1) ∧ 0 < D.getD N 0 by
  have h1 := Dt HD.out.2.2
  rw [HD.out.2.1, HD.out.1] at h1
  refine ⟨Nat.mul_pos (Nat.two_pow_pos s) hDp, h1, Ak4 HD.out.2.2 HD.out.1 ?_⟩
  rw [HD.out.2.1]
  exact Nat.le_trans HGE.out (Nat.le_mul_of_pos_left _ (Nat.two_pow_pos s)))
 clear hR hRR hbR hB4 hg1 hRl hRv hRw hRD4 hQ5 hB5 hB45 hlong hDp hm2 C3
 go_wp2
 clear hm3
 go_loopw [10] (fun i wr => ∃ (k : Nat) (R Q : List Nat), i = .int .i64 ((k : Int) - 1) ∧ k ≤ M ∧ Hid (Row wr w2.heap.size R) ∧ Hid (Row wr w4.heap.size Q) ∧ Hid (Row wr w.heap.size D) ∧ Hid (LongT (2 ^ s * val a) (2 ^ s * val b) (N + 1) M k R Q) ∧ Below w.heap.size w wr) (fun i _ => (intOf i + 1).toNat)
 case atStart => exact ⟨M, R, _, rfl, Nat.le_refl _, HR5, HQ5, HD5, HLONG, HB5.out⟩
 case round =>
  obtain ⟨k, R2, Q, rfl, hk, HR, HQ, HDD, HT, hbw⟩ := hrel
  have hRl := HT.out.lenR
  have hQl := HT.out.lenQ
  have hMn := HM.out
  by_cases h0 : k = 0
  ·subst h0
   obtain ⟨f1, f2⟩ := HT.out.fin HDP.out.1
   rw [Nat.mul_div_mul_left _ _ (Nat.two_pow_pos s)] at f1
   rw [Nat.mul_mod_mul_left] at f2
   have C1 := Lh (Agh w2.heap.size (n + 1) (n + 1) (n + 1) s R2 wr HR.out HT.out.wsR (by omega) (by omega) hs32)
   have HF1 := Lh f1
   have HF2 := Lh f2
   have HQW := Lh HT.out.wsQ
   have HL := Lh (show Q.length = M ∧ R2.length = n + 1 from ⟨hQl, by omega⟩)
   have HNE := Lh (show w4.heap.size ≠ w2.heap.size from Nat.ne_of_gt HG1.out)
   have HBG := Lh (Nat.le_of_lt (Nat.lt_of_lt_of_le HG0.out (Nat.le_refl _)))
   clear f1 f2 hRl hQl hMn
   go_wp2_with fail
   refine C1.out.mono ?_
   rintro e w5 ⟨rfl, S, hS, hRow, hO⟩
   have hv := hS.whole (by rw [HL.out.2]; exact Nat.le_refl _)
   have hSl := hS.len
   rw [List.drop_zero, List.take_of_length_le (by rw [hSl, HL.out.2]; exact Nat.le_refl _), HF2.out, Nat.mul_div_cancel_left _ (Nat.two_pow_pos s)] at hv
   have HFIN := Lh (show Oo n M (val a) (val b) w (.returned (.tuple #[.slice (some ⟨w4.heap.size, 0, none⟩) M M, .slice (some ⟨w2.heap.size, 0, none⟩) (n + 1) (n + 1)])) w5 from
    ⟨Q, S, w2.heap.size, w4.heap.size, rfl, HQ.out.only HNE.out hO, hRow, HL.out.1, by rw [hSl, HL.out.2], HQW.out, hS.ws, HF1.out, hv, hbw.trans (hO.below.mono HBG.out)⟩)
   clear hS hRow hO hv hSl C1
   go_wp2
   go_ret2
   exact HFIN.out
  ·obtain ⟨j, rfl⟩ : ∃ j, k = j + 1 := ⟨k - 1, by omega⟩
   rw [show (((j + 1 : Nat) : Int) - 1) = (j : Int) by omega]
   obtain ⟨p1, p2⟩ := HT.out.part (by omega) HDP.out.2.1
   have C1 := Lh (Afr w2.heap.size j (N + 2) (n + 1 - j) R2 (some ⟨w.heap.size, 0, none⟩) N (N + 1) (N + 1) D (w.heap.size + 1) wr HR.out HT.out.wsR rfl rfl (by omega) HD.out.1 (HDD.out.rw0 HD.out.2.2) HG0.out (by omega) (by rw [HD.out.2.1]; exact HDP.out.1) HDP.out.2.2 (by rw [HD.out.1, HD.out.2.1]; exact p2))
   have HNX := Lh (fun S h1 h2 h3 h4 => HT.out.next (S := S) (by omega) HDP.out.2.1 HDP.out.1 h1 h2 h3 h4)
   unfold U9 at C1
   rw [HD.out.1, HD.out.2.1] at C1
   obtain ⟨q, hq⟩ : ∃ q, val ((R2.drop j).take (N + 1 + 1)) / (2 ^ s * val b) = q := ⟨_, rfl⟩
   rw [hq] at C1 HNX
   have hcell := fun (W : World) (h : Row W w4.heap.size Q) => h.cell j (by omega)
   have hfz := fun (W : World) (h : Row W w4.heap.size Q) => h.frozen j
   have HCELL := Lh hcell
   have HFZ := Lh hfz
   have HNE := Lh (show w4.heap.size ≠ w2.heap.size ∧ w.heap.size ≠ w2.heap.size ∧ w2.heap.size ≠ w4.heap.size ∧ w.heap.size ≠ w4.heap.size from by
    have h1 := HG1.out
    have h2 := HG0.out
    omega)
   have HBG := Lh (show w.heap.size ≤ w2.heap.size ∧ w.heap.size ≤ w4.heap.size from by
    have h1 := HG1.out
    have h2 := HG0.out
    omega)
   have hj1 : (j : Int) < (M : Int) := by omega
   have hjn : (j : Int) + (N : Int) + 2 ≤ (n : Int) + 1 := by omega
   have hjn2 : j + (N + 2) ≤ n + 1 := by omega
   have hk2 : j + 1 ≤ M := hk
   clear hRl hQl hMn hk h0 p1 p2 hq hcell hfz
   go_wp2_with fail
   rw [show j + (N + 1) + 1 - j = N + 2 by omega]
   refine C1.out.mono ?_
   rintro e w5 ⟨S, rfl, hrow, hlen, hws, hfar, hval, hO⟩
   have rQ := HQ.out.only HNE.out.1 hO
   have rD := HDD.out.only HNE.out.2.1 hO
   have hcell := HCELL.out w5 rQ
   have hfz := HFZ.out w5 rQ
   have HTN := Lh (HNX.out S hlen hws hfar hval)
   have HQ2 := Lh (rQ.set j q)
   have HR2 := Lh (show Row (w5.setCell ⟨w4.heap.size, j, none⟩ (.int .u32 (q : Nat))) w2.heap.size S from (Below.heap_setCell w5 _ _ _ HNE.out.2.2.1).trans hrow)
   have HD2 := Lh (show Row (w5.setCell ⟨w4.heap.size, j, none⟩ (.int .u32 (q : Nat))) w.heap.size D from (Below.heap_setCell w5 _ _ _ HNE.out.2.2.2).trans rD)
   have HB2 := Lh ((hbw.trans (hO.below.mono HBG.out.1)).setCell (p := ⟨w4.heap.size, j, none⟩) HBG.out.2 (.int .u32 (q : Nat)))
   clear hrow hlen hws hfar hval hO rQ rD C1 HNX
   go_wp2
   go_roundw
   case rel => exact ⟨j, S, _, by go_num, by omega, HR2, HQ2, HD2, HTN, HB2.out⟩
   case measure => simp [intOf]
theorem Aid (A C : Option Addr) (n c m d : Nat) (l k : List Nat) (w : World) (hn : l.length = n) (hc : n ≤ c) (hm : n ≤ 35184372088832) (h : RW w w.heap.size A l)
  (gn : k.length = m) (gc : m ≤ d) (gm : m ≤ 35184372088832) (g : RW w w.heap.size C k) (hl : (An (val l) || An (val k)) = true) :
  Cp 228 #[.slice A n c, .slice C m d] w (DivT (Ki (val l) (val k)) (K5 (val l) (val k)) (Hv (val l) (val k)) w) := by
 have c1 := Cl A C n c m d l k w hn hc hm h gn gc gm g
 have hp : Below w.heap.size w (Fe w (.slice A n c) (.slice C m d)) := (Below.refl _ _).alloc (Nat.le_refl _) _
 have HF := Lh (DivT.long (w := w) hl hp)
 rw [hl] at c1
 clear h g hn hc hm gn gc gm hl hp
 go_enter Tryz.func228, Tryz.ntmps228
 go_wp2_with fail
 refine c1.mono ?_
 rintro e w1 ⟨rfl, rfl⟩
 go_wp2
 (try simp only [Exit.inBlock, Exit.then])
 refine bodyPost_ret (Bg rfl _ _ _) rfl ?_
 exact HF.out
theorem Ag3 (A C : Option Addr) (n c m d : Nat) (l k : List Nat) (w : World) (hn : l.length = n) (hc : n ≤ c) (hm : n ≤ 35184372088832) (h : RW w w.heap.size A l)
  (gn : k.length = m) (gc : m ≤ d) (gm : m ≤ 35184372088832) (g : RW w w.heap.size C k) (hl : (An (val l) || An (val k)) = false) (hk : val k = 0) :
  Cp 228 #[.slice A n c, .slice C m d] w (DivT (Ki (val l) (val k)) (K5 (val l) (val k)) (Hv (val l) (val k)) w) := by
 have c1 := Cl A C n c m d l k w hn hc hm h gn gc gm g
 have hp : Below w.heap.size w (Fe w (.slice A n c) (.slice C m d)) := (Below.refl _ _).alloc (Nat.le_refl _) _
 have HF := Lh (DivT.zero (w := w) hl hk hp)
 rw [hl] at c1
 have c2 := Av A n c l w.heap.size _ hn hc hm (h.below hp)
 have c3 := Av C m d k w.heap.size _ gn gc gm (g.below hp)
 rw [Cn hk] at c3
 clear h g hn hc hm gn gc gm hl hp hk
 go_enter Tryz.func228, Tryz.ntmps228
 go_wp2_with fail
 refine c1.mono ?_
 rintro e w1 ⟨rfl, rfl⟩
 go_wp2_with fail
 refine c2.mono ?_
 rintro e w1 ⟨rfl, rfl⟩
 go_wp2_with fail
 refine c3.mono ?_
 rintro e w1 ⟨rfl, rfl⟩
 go_wp2
 (try simp only [Exit.inBlock, Exit.then])
 refine bodyPost_ret (Bg rfl _ _ _) rfl ?_
 exact HF.out
theorem Ac1 (A C : Option Addr) (n c m d : Nat) (l k : List Nat) (w : World) (hn : l.length = n) (hc : n ≤ c) (hm : n ≤ 35184372088832) (h : RW w w.heap.size A l)
  (gn : k.length = m) (gc : m ≤ d) (gm : m ≤ 35184372088832) (g : RW w w.heap.size C k) (hl : (An (val l) || An (val k)) = false) (hlt : (nrm l).length < (nrm k).length) :
  Cp 228 #[.slice A n c, .slice C m d] w (DivT (Ki (val l) (val k)) (K5 (val l) (val k)) (Hv (val l) (val k)) w) := by
 have c1 := Cl A C n c m d l k w hn hc hm h gn gc gm g
 have hp : Below w.heap.size w (Fe w (.slice A n c) (.slice C m d)) := (Below.refl _ _).alloc (Nat.le_refl _) _
 rw [hl] at c1
 have c2 := Av A n c l w.heap.size _ hn hc hm (h.below hp)
 have c3 := Av C m d k w.heap.size _ gn gc gm (g.below hp)
 obtain ⟨hl1, hl2⟩ : An (val l) = false ∧ An (val k) = false := by simpa using hl
 have n1 := Dz h.1 hl1
 have n2 := Dz g.1 hl2
 have hval := M8 h.1 hlt
 have e1 : val l / val k = 0 := Nat.div_eq_of_lt hval
 have e2 : val l % val k = val l := Nat.mod_eq_of_lt hval
 obtain ⟨N, hN⟩ : ∃ N, (nrm l).length = N := ⟨_, rfl⟩
 obtain ⟨M, hM⟩ : ∃ M, (nrm k).length = M := ⟨_, rfl⟩
 rw [hN] at n1 c2 hlt
 rw [hM] at n2 c3 hlt
 obtain ⟨W, hW⟩ : ∃ W, Fe w (.slice A n c) (.slice C m d) = W := ⟨_, rfl⟩
 rw [hW] at c1 c2 c3 hp
 have HOK := Lh (fun (w' : World) A2 n2 c2 C2 m2 d2 h3 h4 h5 h6 h7 h8 h9 => DivT.ok (w := w) (w' := w') (A := A2) (C := C2) (n := n2) (c := c2) (m := m2) (d := d2) hl (by omega) h3 h4 h5 h6 h7 h8 h9)
 rw [e1, e2] at HOK
 have hND : (wds (val l)).length = N := by rw [← Bo h.1]; exact hN
 have c4 := (Aow A N N (nrm l) N W hN (Nat.le_refl _) (by omega) ((h.nrm.below hp).more hp.size) (by rw [E1]; exact hN))
 rw [E1, Bo h.1] at c4
 have HW := Lh hW
 have HP := Lh hp
 have HND := Lh hND
 have z0 : ((M : Int) == 0) = false := by simp; omega
 have z1 : (N : Int) < (M : Int) := by omega
 clear h g hn hc hm gn gc gm hl hp hl1 hl2 n1 n2 hval e1 e2 hN hM hW hND hlt
 go_enter Tryz.func228, Tryz.ntmps228
 go_wp2_with fail
 rw [show w.alloc (.cells #[.slice A n c, .slice C m d] 121) = W from HW.out]
 refine c1.mono ?_
 rintro e w1 ⟨rfl, rfl⟩
 go_wp2_with fail
 refine c2.mono ?_
 rintro e w1 ⟨rfl, rfl⟩
 go_wp2_with fail
 refine c3.mono ?_
 rintro e w1 ⟨rfl, rfl⟩
 go_wp2_with fail
 refine c4.mono ?_
 rintro e w2 ⟨A2, c2, rfl, ⟨hc2, r2⟩, b2⟩
 have HF := Lh (HOK.out w2 none 0 0 A2 N c2 rfl (Nat.le_refl _) HND.out.symm hc2 (RW.nil _ _ _) r2 (Aa HP.out b2))
 clear r2 hc2 b2
 go_wp2
 (try simp only [Exit.inBlock, Exit.then])
 refine bodyPost_ret (Bg rfl _ _ _) rfl ?_
 exact HF.out
theorem Ajn (A C : Option Addr) (n c m d : Nat) (l k : List Nat) (w : World) (hn : l.length = n) (hc : n ≤ c) (hm : n ≤ 35184372088832) (h : RW w w.heap.size A l)
  (gn : k.length = m) (gc : m ≤ d) (gm : m ≤ 35184372088832) (g : RW w w.heap.size C k) (hl : (An (val l) || An (val k)) = false) (hle : (nrm k).length ≤ (nrm l).length) (h1k : (nrm k).length = 1) :
  Cp 228 #[.slice A n c, .slice C m d] w (DivT (Ki (val l) (val k)) (K5 (val l) (val k)) (Hv (val l) (val k)) w) := by
 have c1 := Cl A C n c m d l k w hn hc hm h gn gc gm g
 have hp : Below w.heap.size w (Fe w (.slice A n c) (.slice C m d)) := (Below.refl _ _).alloc (Nat.le_refl _) _
 rw [hl] at c1
 have c2 := Av A n c l w.heap.size _ hn hc hm (h.below hp)
 have c3 := Av C m d k w.heap.size _ gn gc gm (g.below hp)
 obtain ⟨hl1, hl2⟩ : An (val l) = false ∧ An (val k) = false := by simpa using hl
 have n1 := Dz h.1 hl1
 obtain ⟨u, hu⟩ : ∃ u, nrm k = [u] := List.length_eq_one_iff.1 h1k
 have hkv : val k = u := by rw [← Ar, hu]; simp [val]
 have hgB := g.nrm
 rw [hu] at hgB c3
 have hul : u < 4294967296 := hgB.1 u (by simp)
 have hu0 : 0 < u := by
  rcases Nat.eq_zero_or_pos u with h0 | h0
  ·have := Cn (l := k) (by rw [hkv, h0])
   rw [this] at hu; cases hu
  ·exact h0
 obtain ⟨b, off, hCe, hbB, hcell⟩ := hgB.2 (by simp)
 have d0 := hcell 0 u rfl
 rw [Nat.add_zero] at d0
 subst hCe
 obtain ⟨N, hN⟩ : ∃ N, (nrm l).length = N := ⟨_, rfl⟩
 rw [h1k, hN] at hle
 rw [hN] at n1 c2
 obtain ⟨W, hW⟩ : ∃ W, Fe w (.slice A n c) (.slice (some ⟨b, off, none⟩) m d) = W := ⟨_, rfl⟩
 rw [hW] at c1 c2 c3 hp
 have HOK := Lh (fun (w' : World) A2 n2 c2 C2 m2 d2 h3 h4 h5 h6 h7 h8 h9 => DivT.ok (w := w) (w' := w') (A := A2) (C := C2) (n := n2) (c := c2) (m := m2) (d := d2) hl (by omega) h3 h4 h5 h6 h7 h8 h9)
 have c4 := Ah7 A N N (nrm l) W hN (Nat.le_refl _) (by omega) ((h.nrm.below hp).more hp.size)
 rw [E1, hN] at c4
 have C5 := Lh (fun W2 (r : Row W2 W.heap.size (nrm l)) => Ot W.heap.size N N u (nrm l) W2 r h.1.nrm hN (by omega) hul hu0)
 rw [Ar] at C5
 rw [hkv] at HOK ⊢
 have hrl : val l % u < u := Nat.mod_lt _ hu0
 obtain ⟨q, hq⟩ : ∃ q, val l / u = q := ⟨_, rfl⟩
 obtain ⟨z, hz⟩ : ∃ z, val l % u = z := ⟨_, rfl⟩
 rw [hq, hz] at HOK C5
 rw [hz] at hrl
 have C7 := Lh (fun W => (Nz z (by omega) W).mono fun _ _ y => y.told (n := (wds z).length) (by rw [Gj z (by omega)]))
 rw [Gj z (by omega)] at C7
 have HW := Lh hW
 have HP := Lh hp
 rw [← hp.cell (p := ⟨b, off, none⟩) hbB] at d0
 have z0 : ((1 : Int) == 0) = false := rfl
 have z1 : ¬ (N : Int) < 1 := by omega
 have z2 : IntKind.u64.wrap (z : Int) = (z : Int) := IntWalk.u64_in _ (by omega)
 have HN1 := Lh n1
 clear h g hn hc hm gn gc gm hl hp hl1 hl2 n1 hkv hu hul hu0 hN hW hle h1k hgB hcell hrl hq hz
 go_enter Tryz.func228, Tryz.ntmps228
 go_wp2_with fail
 rw [show w.alloc (.cells #[.slice A n c, .slice (some ⟨b, off, none⟩) m d] 121) = W from HW.out]
 refine c1.mono ?_
 rintro e w1 ⟨rfl, rfl⟩
 go_wp2_with fail
 refine c2.mono ?_
 rintro e w1 ⟨rfl, rfl⟩
 go_wp2_with fail
 refine c3.mono ?_
 rintro e w1 ⟨rfl, rfl⟩
 go_wp2_with fail
 refine c4.mono ?_
 rintro e w2 ⟨rfl, r2, b2⟩
 have d2 := d0
 rw [← b2.cell (p := ⟨b, off, none⟩) (Nat.lt_of_lt_of_le hbB HP.out.size)] at d2
 have C6 := C5.out _ r2
 clear c1 c2 c3 c4 C5 r2
 go_wp2_with fail
 refine C6.mono ?_
 rintro e w3 ⟨rfl, S, r3, s1, s2, s3, b3⟩
 have B3 := Aa HP.out (b2.trans b3)
 have hlt3 := r3.lt
 have c8 := Av (some ⟨W.heap.size, 0, none⟩) N N S w3.heap.size w3 s1 (Nat.le_refl _) (by have := HN1.out; omega) ((r3.rw0 s2).more hlt3)
 have HR3 := Lh ((r3.rw0 s2).more hlt3).nrm
 rw [Bo s2, s3] at c8 HR3
 have HLQ := Lh (show (wds q).length ≤ N by rw [← s3, ← Bo s2, ← s1]; exact Ay S)
 clear r3 s1 s2 s3 b3 b2 C6 d0 hlt3
 go_wp2_with fail
 refine c8.mono ?_
 rintro e w' ⟨rfl, rfl⟩
 go_wp2_with fail
 refine (C7.out _).mono ?_
 rintro e w4 ⟨A4, c4, rfl, ⟨hc4, r4⟩, b4⟩
 have HF := Lh (HOK.out w4 _ _ (wds q).length A4 _ c4 rfl (Nat.le_refl _) rfl hc4 (HR3.out.step b4) r4 (Aa B3 b4))
 clear r4 hc4 b4
 go_wp2
 (try simp only [Exit.inBlock, Exit.then])
 refine bodyPost_ret (Bg rfl _ _ _) rfl ?_
 exact HF.out
theorem Aiu (A C : Option Addr) (n c m d : Nat) (l k : List Nat) (w : World) (hn : l.length = n) (hc : n ≤ c) (hm : n ≤ 35184372088832) (h : RW w w.heap.size A l)
  (gn : k.length = m) (gc : m ≤ d) (gm : m ≤ 35184372088832) (g : RW w w.heap.size C k) (hl : (An (val l) || An (val k)) = false) (hle : (nrm k).length ≤ (nrm l).length) (h1k : 1 < (nrm k).length) :
  Cp 228 #[.slice A n c, .slice C m d] w (DivT (Ki (val l) (val k)) (K5 (val l) (val k)) (Hv (val l) (val k)) w) := by
 have c1 := Cl A C n c m d l k w hn hc hm h gn gc gm g
 have hp : Below w.heap.size w (Fe w (.slice A n c) (.slice C m d)) := (Below.refl _ _).alloc (Nat.le_refl _) _
 rw [hl] at c1
 have c2 := Av A n c l w.heap.size _ hn hc hm (h.below hp)
 have c3 := Av C m d k w.heap.size _ gn gc gm (g.below hp)
 obtain ⟨hl1, hl2⟩ : An (val l) = false ∧ An (val k) = false := by simpa using hl
 have n1 := Dz h.1 hl1
 have n2 := Dz g.1 hl2
 have hk0 : 0 < val k := by
  rcases Nat.eq_zero_or_pos (val k) with h0 | h0
  ·rw [Cn h0] at h1k; simp at h1k
  ·exact h0
 obtain ⟨N, hN⟩ : ∃ N, (nrm l).length = N := ⟨_, rfl⟩
 obtain ⟨M, hM⟩ : ∃ M, (nrm k).length = M := ⟨_, rfl⟩
 rw [hN] at n1 c2 hle
 rw [hM] at n2 c3 hle h1k
 obtain ⟨W, hW⟩ : ∃ W, Fe w (.slice A n c) (.slice C m d) = W := ⟨_, rfl⟩
 rw [hW] at c1 c2 c3 hp
 have HOK := Lh (fun (w' : World) A2 n2 c2 C2 m2 d2 h3 h4 h5 h6 h7 h8 h9 => DivT.ok (w := w) (w' := w') (A := A2) (C := C2) (n := n2) (c := c2) (m := m2) (d := d2) hl hk0 h3 h4 h5 h6 h7 h8 h9)
 obtain ⟨K, hK⟩ : ∃ K, N + 1 = K + M := ⟨N + 1 - M, by omega⟩
 have c4 := Pd A C N N M K (M - 1) M (nrm l) (nrm k) W hN n1 ((h.nrm.below hp).more hp.size) hM (by omega) ((g.nrm.below hp).more hp.size) (E1 k) hK (by omega)
 rw [Ar, Ar] at c4
 have HW := Lh hW
 have HP := Lh hp
 have z0 : ((M : Int) == 0) = false := by simp; omega
 have z1 : ¬ (N : Int) < (M : Int) := by omega
 have z2 : ((M : Int) == 1) = false := by simp; omega
 have HK := Lh (show K ≤ 1024 ∧ N + 1 ≤ 1025 by omega)
 obtain ⟨q, hq⟩ : ∃ q, val l / val k = q := ⟨_, rfl⟩
 obtain ⟨z, hz⟩ : ∃ z, val l % val k = z := ⟨_, rfl⟩
 rw [hq, hz] at HOK
 unfold Oo at c4
 rw [hq, hz] at c4
 clear h g hn hc hm gn gc gm hl hp hl1 hl2 n1 n2 hN hM hW hle h1k hk0 hq hz hK
 go_enter Tryz.func228, Tryz.ntmps228
 go_wp2_with fail
 rw [show w.alloc (.cells #[.slice A n c, .slice C m d] 121) = W from HW.out]
 refine c1.mono ?_
 rintro e w1 ⟨rfl, rfl⟩
 go_wp2_with fail
 refine c2.mono ?_
 rintro e w1 ⟨rfl, rfl⟩
 go_wp2_with fail
 refine c3.mono ?_
 rintro e w1 ⟨rfl, rfl⟩
 go_wp2_with fail
 refine c4.mono ?_
 rintro e w2 ⟨S, T, g1, g2, rfl, r2, t2, s1, s2, s3, s4, s5, s6, b2⟩
 have B2 := Aa HP.out b2
 have hlt2 := r2.lt
 have hlt3 := t2.lt
 have c5 := Av (some ⟨g2, 0, none⟩) K K S w2.heap.size w2 s1 (Nat.le_refl _) (by have := HK.out; omega) ((r2.rw0 s3).more hlt2)
 have c6 := Av (some ⟨g1, 0, none⟩) (N + 1) (N + 1) T w2.heap.size w2 s2 (Nat.le_refl _) (by have := HK.out; omega) ((t2.rw0 s4).more hlt3)
 have HR2 := Lh ((r2.rw0 s3).more hlt2).nrm
 have HR3 := Lh ((t2.rw0 s4).more hlt3).nrm
 rw [Bo s3, s5] at c5 HR2
 rw [Bo s4, s6] at c6 HR3
 have HF := Lh (HOK.out w2 _ _ (wds q).length _ _ (wds z).length rfl (Nat.le_refl _) rfl (Nat.le_refl _) HR2.out HR3.out B2)
 clear r2 t2 s1 s2 s3 s4 s5 s6 b2 hlt2 hlt3 c1 c2 c3 c4
 go_wp2_with fail
 refine c5.mono ?_
 rintro e w' ⟨rfl, rfl⟩
 go_wp2_with fail
 refine c6.mono ?_
 rintro e w' ⟨rfl, rfl⟩
 go_wp2
 (try simp only [Exit.inBlock, Exit.then])
 refine bodyPost_ret (Bg rfl _ _ _) rfl ?_
 exact HF.out
theorem Al6 (A C : Option Addr) (n c m d : Nat) (l k : List Nat) (w : World) (hn : l.length = n) (hc : n ≤ c) (hm : n ≤ 35184372088832) (h : RW w w.heap.size A l)
  (gn : k.length = m) (gc : m ≤ d) (gm : m ≤ 35184372088832) (g : RW w w.heap.size C k) :
  Cp 228 #[.slice A n c, .slice C m d] w (DivT (Ki (val l) (val k)) (K5 (val l) (val k)) (Hv (val l) (val k)) w) := by
 cases hl : (An (val l) || An (val k))
 ·rcases Nat.eq_zero_or_pos (val k) with h0 | h0
  ·exact Ag3 A C n c m d l k w hn hc hm h gn gc gm g hl h0
  ·have hp : 0 < (nrm k).length := List.length_pos_iff.2 (fun e => by rw [← Ar, e] at h0; simp [val] at h0)
   rcases Nat.lt_or_ge (nrm l).length (nrm k).length with h1 | h1
   ·exact Ac1 A C n c m d l k w hn hc hm h gn gc gm g hl h1
   ·by_cases h2 : (nrm k).length = 1
    ·exact Ajn A C n c m d l k w hn hc hm h gn gc gm g hl h1 h2
    ·exact Aiu A C n c m d l k w hn hc hm h gn gc gm g hl h1 (by omega)
 ·exact Aid A C n c m d l k w hn hc hm h gn gc gm g hl
theorem NatPost.err {v : Nat} {w w' : World} {e : Ending} (h : NatPost v w e w') (hl : An v = true) : e = .returned (.tuple #[.slice none 0 0, .int .i64 3]) ∧ Below w.heap.size w w' := by
 obtain ⟨A, n, c, k, h1, h2, h3⟩ := h
 rw [if_pos hl] at h2
 obtain ⟨rfl, rfl, rfl, rfl⟩ := h2
 exact ⟨h1, h3⟩
theorem Ai2 (n i : Nat) (hn : n < 9223372036854775808) : bits BinOp.and IntKind.i64 ((n : Int) / 2 ^ i) 1 = ((n / 2 ^ i % 2 : Nat) : Int) := by
 have h1 : n / 2 ^ i ≤ n := Nat.div_le_self _ _
 have e : ((n : Int) / 2 ^ i) = ((n / 2 ^ i : Nat) : Int) := by rw [Int.natCast_ediv, Int.natCast_pow]; rfl
 rw [e]
 obtain ⟨m, hm⟩ : ∃ m, n / 2 ^ i = m := ⟨_, rfl⟩
 rw [hm] at h1 ⊢
 show IntKind.i64.wrap ((BitVec.ofInt 64 (m : Int) &&& BitVec.ofInt 64 1).toNat : Int) = _
 have e1 : (BitVec.ofInt 64 1).toNat = 1 := by decide
 have e2 : (BitVec.ofInt 64 (m : Int)).toNat = m := by
  rw [BitVec.ofInt_natCast, BitVec.toNat_ofNat]; exact Nat.mod_eq_of_lt (by omega)
 rw [BitVec.toNat_and, e1, e2, Nat.and_one_is_mod, IntKind.wrap_i64]
 omega
theorem Ako (b n : Nat) (w : World) (hb : b < 4294967296) (hn : n < 9223372036854775808) :
  Cp 226 #[.int .u32 b, .int .i64 n] w (NatPost (b ^ n) w) := by
 obtain ⟨F, hF⟩ : ∃ F, (wds b).length = F := ⟨_, rfl⟩
 obtain ⟨O, hO⟩ : ∃ O, (wds 1).length = O := ⟨_, rfl⟩
 have K1 := Lh (fun W => show Cp 187 #[.int .u64 b] W (Ji (wds b) F W) from by
  have := (Nz b (by omega) W).mono fun _ _ y => y.told (n := F) (by rw [Gj b (by omega)]; exact hF)
  rw [Gj b (by omega)] at this; exact this)
 have K2 := Lh (fun W => show Cp 187 #[.int .u64 1] W (Ji (wds 1) O W) from by
  have := (Nz 1 (by omega) W).mono fun _ _ y => y.told (n := O) (by rw [Gj 1 (by omega)]; exact hO)
  rw [Gj 1 (by omega)] at this; exact this)
 have hbl := Lib.bitLen_le n 64 (by omega) (by omega)
 have c3 := fun W => (Tryz.bits_Len (n : Int) W (by omega) (by omega)).mono fun _ _ (h : _ ∧ _ = W) => And.intro h.1 h.2.symm
 rw [Int.toNat_natCast] at c3
 obtain ⟨q0, hq0⟩ : ∃ q0, Lib.bitLen n = q0 := ⟨_, rfl⟩
 rw [hq0] at c3 hbl
 have hz : n / 2 ^ q0 = 0 := by
  rw [← hq0]
  rcases Nat.eq_zero_or_pos n with h0 | h0
  ·rw [h0]; exact Nat.zero_div _
  ·exact Nat.div_eq_of_lt (Lib.bitLenAux_bounds 64 n (by omega) (by omega)).2.2
 have HZ := Lh (show b ^ (n / 2 ^ q0) = 1 by rw [hz]; rfl)
 have HF := Lh hF
 have HO := Lh hO
 have hF1 : F ≤ 2 := by rw [← hF, ← Gj b (by omega)]; exact Ay _
 have k1 : IntKind.u64.wrap (b : Int) = (b : Int) := IntWalk.u64_in _ (by omega)
 have k2 : IntKind.u64.wrap (n : Int) = (n : Int) := IntWalk.u64_in _ (by omega)
 have HB := Lh hb
 have HN := Lh hn
 have n0 : (0 : Int) ≤ (n : Int) := by omega
 clear hb hn hF hO hq0 hz
 go_enter Tryz.func226, Tryz.ntmps226
 go_wp2_with fail
 refine (K1.out _).mono ?_
 rintro e w1 ⟨A1, c1, rfl, ⟨hc1, r1⟩, b1⟩
 go_wp2_with fail
 refine (K2.out _).mono ?_
 rintro e w2 ⟨A2, c2, rfl, ⟨hc2, r2⟩, b2⟩
 go_wp2_with fail
 refine Sm (c3 _) ?_
 have HR1 := Lh (r1.step b2)
 have HR2 := Lh r2
 have HB2 := Lh (Aa b1 b2)
 clear r1 r2 b1 b2 c3
 go_wp2
 go_loopw [7, 8] (fun v i wr => ∃ (q : Nat) (A : Option Addr) (N c : Nat), v = .slice A N c ∧ i = .int .i64 ((q : Int) - 1) ∧ q ≤ 64 ∧ Hid ((wds (b ^ (n / 2 ^ q))).length = N) ∧ N ≤ c ∧ Hid (RW wr wr.heap.size A (wds (b ^ (n / 2 ^ q)))) ∧ Hid (An (b ^ (n / 2 ^ q)) = false) ∧ Below w2.heap.size w2 wr) (fun _ i _ => (intOf i + 1).toNat)
 case atStart => exact ⟨q0, A2, O, c2, rfl, rfl, hbl, Lh (by rw [HZ.out]; exact HO.out), hc2, Lh (by rw [HZ.out]; exact HR2.out), Lh (by rw [HZ.out]; exact Ec (by omega)), Below.refl _ _⟩
 case round =>
  obtain ⟨q, A, N, c, rfl, rfl, hq, HNq, hNc, HR, HL, hbw⟩ := hrel
  by_cases h0 : q = 0
  ·subst h0
   have HE := Lh (show b ^ (n / 2 ^ 0) = b ^ n by rw [Nat.pow_zero, Nat.div_one])
   have HX := Lh (NatPost.ok (w := w) HL.out HNq.out.symm hNc HR.out (Aa HB2.out hbw))
   go_wp2
   go_ret2
   rw [← HE.out]
   exact HX.out
  ·obtain ⟨i, rfl⟩ : ∃ i, q = i + 1 := ⟨q - 1, by omega⟩
   have hNl := Ahh HL.out
   rw [HNq.out] at hNl
   have C1 := Lh (Aad A A N c N c (wds (b ^ (n / 2 ^ (i + 1)))) (wds (b ^ (n / 2 ^ (i + 1)))) wr HNq.out hNc (by omega) HR.out HNq.out hNc (by omega) HR.out (by rw [Ae, HL.out]; rfl))
   rw [Ae] at C1
   clear h0
   cases hsq : An (b ^ (n / 2 ^ (i + 1)) * b ^ (n / 2 ^ (i + 1)))
   ·obtain ⟨N3, hN3⟩ : ∃ N3, (wds (b ^ (n / 2 ^ (i + 1)) * b ^ (n / 2 ^ (i + 1)))).length = N3 := ⟨_, rfl⟩
    have C2 := Lh (C1.out.mono fun _ _ x => x.one hsq hN3)
    have hi1 : (i : Int) ≤ 63 := by omega
    have hbt := Ai2 n i HN.out
    have hhalf := Ah2 b n i
    have hbit : n / 2 ^ i % 2 = 0 ∨ n / 2 ^ i % 2 = 1 := by omega
    rcases hbit with hbit | hbit
    ·rw [hbit, Nat.pow_zero, Nat.mul_one] at hhalf
     rw [hhalf] at C2 hsq hN3
     have hT : (bits BinOp.and IntKind.i64 ((n : Int) / 2 ^ i) 1 == 1) = false := by rw [hbt, hbit]; rfl
     have HN3 := Lh hN3
     have HSQ := Lh hsq
     clear hbit hbt hhalf hN3 hsq C1 hNl
     go_wp2_with fail
     refine C2.out.mono ?_
     rintro e w3 ⟨A3, c3, rfl, ⟨hc3, r3⟩, b3⟩
     have HR3 := Lh r3
     have HB3 := Lh (Aa hbw b3)
     clear r3 b3 C2
     go_wp2
     go_roundw
     case rel => exact ⟨i, A3, N3, c3, rfl, by go_num, by omega, HN3, hc3, HR3, HSQ, HB3.out⟩
     case measure => simp [intOf]
    ·rw [hbit, Nat.pow_one] at hhalf
     have hT : (bits BinOp.and IntKind.i64 ((n : Int) / 2 ^ i) 1 == 1) = true := by rw [hbt, hbit]; rfl
     have hN3l := Ahh hsq
     rw [hN3] at hN3l
     have C4 := Lh (fun W A5 c5 (h5 : N3 ≤ c5) (r5 : RW W W.heap.size A5 (wds (b ^ (n / 2 ^ (i + 1)) * b ^ (n / 2 ^ (i + 1))))) (r6 : RW W W.heap.size A1 (wds b)) =>
      show Cp 227 #[.slice A5 N3 c5, .slice A1 F c1] W (NatPost (b ^ (n / 2 ^ i)) W) from by
       have := Aad A5 A1 N3 c5 F c1 _ _ W hN3 h5 (by omega) r5 HF.out hc1 (by omega) r6 (by rw [Ae, Ae, hsq, Ec HB.out]; rfl)
       rw [Ae, Ae, hhalf] at this
       exact this)
     clear hbit hbt hhalf hN3 hsq C1 hNl hN3l
     cases hmu : An (b ^ (n / 2 ^ i))
     ·obtain ⟨N4, hN4⟩ : ∃ N4, (wds (b ^ (n / 2 ^ i))).length = N4 := ⟨_, rfl⟩
      have HN4 := Lh hN4
      have HMU := Lh hmu
      clear hN4 hmu
      go_wp2_with fail
      refine C2.out.mono ?_
      rintro e w3 ⟨A3, c3, rfl, ⟨hc3, r3⟩, b3⟩
      have D4 := Lh ((C4.out w3 A3 c3 hc3 r3 ((HR1.out.step hbw).step b3)).mono fun _ _ x => x.one HMU.out HN4.out)
      have hbw3 := Aa hbw b3
      clear r3 b3 C2 C4
      go_wp2_with fail
      refine D4.out.mono ?_
      rintro e w4 ⟨A4, c4, rfl, ⟨hc4, r4⟩, b4⟩
      have HR4 := Lh r4
      have HB4 := Lh (Aa hbw3 b4)
      clear r4 b4 D4
      go_wp2
      go_roundw
      case rel => exact ⟨i, A4, N4, c4, rfl, by go_num, by omega, HN4, hc4, HR4, HMU, HB4.out⟩
      case measure => simp [intOf]
     ·have HMU := Lh hmu
      have HLN := Lh (Ajm b _ n (Nat.div_le_self n (2 ^ i)) hmu)
      clear hmu
      go_wp2_with fail
      refine C2.out.mono ?_
      rintro e w3 ⟨A3, c3, rfl, ⟨hc3, r3⟩, b3⟩
      have D4 := Lh ((C4.out w3 A3 c3 hc3 r3 ((HR1.out.step hbw).step b3)).mono fun _ _ x => x.err HMU.out)
      have hbw3 := Aa hbw b3
      clear r3 b3 C2 C4
      go_wp2_with fail
      refine D4.out.mono ?_
      rintro e w4 ⟨rfl, b4⟩
      have HB4 := Lh (Aa HB2.out (Aa hbw3 b4))
      clear b4 D4
      go_wp2
      go_ret2
      exact NatPost.long HLN.out HB4.out
   ·have HSQ := Lh hsq
    have HLN := Lh (show An (b ^ n) = true by rw [Anh] at hsq; exact Ajm b _ n (Aoe n i) hsq)
    have C2 := Lh (C1.out.mono fun _ _ x => x.err hsq)
    clear hsq hNl C1
    go_wp2_with fail
    refine C2.out.mono ?_
    rintro e w3 ⟨rfl, b3⟩
    have HB3 := Lh (Aa HB2.out (Aa hbw b3))
    clear b3 C2
    go_wp2
    go_ret2
    exact NatPost.long HLN.out HB3.out
end
section
def Bp (N : Nat) (e : Int) : Nat := rnd (N * 10 ^ e.toNat * 2 ^ 1074) (10 ^ (-e).toNat)
theorem Fj : ∃ K : Nat, K = 1074 ∧ ∀ N e, Bp N e = rnd (N * 10 ^ e.toNat * 2 ^ K) (10 ^ (-e).toNat) := ⟨1074, rfl, fun _ _ => rfl⟩
theorem Au (k : Nat) : 0 < 10 ^ k := Nat.pow_pos (by omega)
theorem Uq {u v : Nat} (h : 2 * u < v) : rnd u v = 0 := by
 have h1 : u / v = 0 := Nat.div_eq_of_lt (by omega)
 have h2 : Bi u v = 0 := by unfold Bi; rw [h1]; rfl
 unfold rnd
 rw [h2, Nat.pow_zero, Nat.one_mul]
 unfold Db
 rw [h1, Nat.mod_eq_of_lt (by omega), decide_eq_false (by omega), decide_eq_false (by omega)]
 rfl
theorem R7 (e : Int) : Bp 0 e = 0 := by
 obtain ⟨K, hK, h⟩ := Fj
 rw [h, Nat.zero_mul, Nat.zero_mul]
 exact Uq (Au _)
theorem D0 (N j : Nat) (e : Int) : Bp (N * 10 ^ j) e = Bp N (e + j) := by
 obtain ⟨K, hK, h⟩ := Fj
 rw [h, h]
 refine Ll (Au _) (Au _) ?_
 have e1 : 10 ^ j * 10 ^ e.toNat * 10 ^ (-(e + j)).toNat = 10 ^ (e + j).toNat * 10 ^ (-e).toNat := by
  rw [← Nat.pow_add, ← Nat.pow_add, ← Nat.pow_add]
  congr 1
  omega
 generalize 10 ^ j = x at *
 generalize 10 ^ e.toNat = y at *
 generalize 10 ^ (-(e + j)).toNat = z at *
 generalize 10 ^ (e + j).toNat = p at *
 generalize 10 ^ (-e).toNat = q at *
 generalize 2 ^ K = U at *
 have h1 : N * x * y * U * z = N * (x * y * z) * U := by grind
 have h2 : N * p * U * q = N * (p * q) * U := by grind
 rw [h1, h2, e1]
set_option exponentiation.threshold 2000 in
theorem Alr : ∀ K T : Nat, K = 1075 → T = 324 → 2 ^ K < 10 ^ T := by
 intro K T hK hT
 subst hK
 subst hT
 decide +kernel
set_option exponentiation.threshold 2000 in
theorem Alb : ∀ K T : Nat, K = 1024 → T = 309 → 2 ^ K ≤ 10 ^ T := by
 intro K T hK hT
 subst hK
 subst hT
 decide +kernel
theorem Ri {N L : Nat} {e : Int} (hN : N < 10 ^ L) (h : (L : Int) + e ≤ -324) : Bp N e = 0 := by
 obtain ⟨K, hK, hd⟩ := Fj
 rw [hd, show e.toNat = 0 by omega, Nat.pow_zero, Nat.mul_one]
 refine Uq ?_
 obtain ⟨T, hT⟩ : ∃ T : Nat, T = 324 := ⟨_, rfl⟩
 have h1 := Alr (K + 1) T (by omega) hT
 have h2 : 10 ^ L * 10 ^ T ≤ 10 ^ (-e).toNat := by
  rw [← Nat.pow_add]
  exact Nat.pow_le_pow_right (by omega) (by omega)
 rw [Nat.pow_succ] at h1
 refine Nat.lt_of_lt_of_le ?_ h2
 have hL := Au L
 generalize 10 ^ L = x at *
 generalize 10 ^ T = y at *
 generalize 2 ^ K = U at *
 have a1 : N * (U * 2) ≤ x * (U * 2) := Nat.mul_le_mul_right _ (Nat.le_of_lt hN)
 have a2 : x * (U * 2) < x * y := Nat.mul_lt_mul_of_pos_left h1 hL
 have a3 : 2 * (N * U) = N * (U * 2) := by grind
 omega
theorem R9 {N M : Nat} {e : Int} (hN : 10 ^ M ≤ N) (h : 309 ≤ (M : Int) + e) : Bp N e = 9218868437227405312 := by
 obtain ⟨K, hK, hd⟩ := Fj
 rw [hd]
 refine Nd (Au _) ?_
 obtain ⟨D, hD⟩ : ∃ D : Nat, D = 2046 := ⟨_, rfl⟩
 have e1 := Ax 4503599627370496 D (by omega) (by omega)
 rw [show D * 4503599627370496 + 4503599627370496 = 9218868437227405312 by omega] at e1
 rw [e1]
 obtain ⟨T, hT⟩ : ∃ T : Nat, T = 309 := ⟨_, rfl⟩
 have h1 := Alb (D + 52 - K) T (by omega) hT
 have h2 : 4503599627370496 * 2 ^ D = 2 ^ (D + 52 - K) * 2 ^ K := by
  rw [show (4503599627370496 : Nat) = 2 ^ 52 from rfl, ← Nat.pow_add, ← Nat.pow_add]
  exact congrArg (fun k => 2 ^ k) (show 52 + D = D + 52 - K + K by omega)
 have h3 : 10 ^ T * 10 ^ (-e).toNat ≤ 10 ^ M * 10 ^ e.toNat := by
  rw [← Nat.pow_add, ← Nat.pow_add]
  exact Nat.pow_le_pow_right (by omega) (by omega)
 rw [h2]
 generalize 2 ^ (D + 52 - K) = A at *
 generalize 2 ^ K = U at *
 generalize 10 ^ T = Tn at *
 generalize 10 ^ (-e).toNat = z at *
 generalize 10 ^ M = m at *
 generalize 10 ^ e.toNat = y at *
 have a1 : A * U * z = A * z * U := by grind
 rw [a1]
 refine Nat.mul_le_mul_right _ ?_
 have a2 : A * z ≤ Tn * z := Nat.mul_le_mul_right _ h1
 have a3 : m * y ≤ N * y := Nat.mul_le_mul_right _ hN
 omega
theorem Ae6 {N N' p r T : Nat} {e : Int} (hT : T = 768) (hp : 10 ^ T ≤ p) (a1 : p * 10 ^ r < N) (a2 : N < (p + 1) * 10 ^ r) (b1 : p * 10 ^ r < N') (b2 : N' < (p + 1) * 10 ^ r) (htop : (p + 1) * 10 ^ (e + r).toNat ≤ 10 ^ T * 10 ^ (-(e + r)).toNat) : Bp N e = Bp N' e := by
 have main : ∀ N N' : Nat, N ≤ N' → p * 10 ^ r < N → N' < (p + 1) * 10 ^ r → Bp N e = Bp N' e := by
  intro N N' hle c1 c2
  obtain ⟨K, hK, hd⟩ := Fj
  rw [hd, hd]
  refine Agb (Au _) (Au _) (Nat.mul_le_mul_right _ (Nat.mul_le_mul_right _ (Nat.mul_le_mul_right _ hle))) ?_
  intro c D hc h1 h2
  have e1 : 10 ^ r * 10 ^ e.toNat * 10 ^ (-(e + r)).toNat = 10 ^ (e + r).toNat * 10 ^ (-e).toNat := by
   rw [← Nat.pow_add, ← Nat.pow_add, ← Nat.pow_add]
   congr 1
   omega
  have hy := Au e.toNat
  have hz := Au (-(e + r)).toNat
  have hq := Au (-e).toNat
  have hU := Nat.two_pow_pos K
  refine Ahu (p := p) (s := (e + r).toNat) (t := (-(e + r)).toNat) (c := c) (D := D) (K := K + 1) (by omega) hT hp hc ?_ ?_ htop
  ·rw [Nat.pow_succ]
   generalize 10 ^ r = x at *
   generalize 10 ^ e.toNat = y at *
   generalize 10 ^ (-(e + r)).toNat = z at *
   generalize 10 ^ (e + r).toNat = s at *
   generalize 10 ^ (-e).toNat = q at *
   generalize 2 ^ K = U at *
   generalize c * 2 ^ D = C at *
   refine Nat.lt_of_mul_lt_mul_right (a := q) ?_
   have g1 : p * x * (y * (U * 2) * z) < N * (y * (U * 2) * z) := Nat.mul_lt_mul_of_pos_right c1 (Nat.mul_pos (Nat.mul_pos hy (by omega)) hz)
   have g2 : 2 * (N * y * U) * z ≤ C * q * z := Nat.mul_le_mul_right _ h1
   have g3 : p * s * (U * 2) * q = p * x * (y * (U * 2) * z) := by
    have : p * s * (U * 2) * q = p * (s * q) * (U * 2) := by grind
    rw [this, ← e1]; grind
   have g4 : N * (y * (U * 2) * z) = 2 * (N * y * U) * z := by grind
   have g5 : C * z * q = C * q * z := by grind
   omega
  ·rw [Nat.pow_succ]
   generalize 10 ^ r = x at *
   generalize 10 ^ e.toNat = y at *
   generalize 10 ^ (-(e + r)).toNat = z at *
   generalize 10 ^ (e + r).toNat = s at *
   generalize 10 ^ (-e).toNat = q at *
   generalize 2 ^ K = U at *
   generalize c * 2 ^ D = C at *
   refine Nat.lt_of_mul_lt_mul_right (a := q) ?_
   have g1 : N' * (y * (U * 2) * z) < (p + 1) * x * (y * (U * 2) * z) := Nat.mul_lt_mul_of_pos_right c2 (Nat.mul_pos (Nat.mul_pos hy (by omega)) hz)
   have g2 : C * q * z ≤ 2 * (N' * y * U) * z := Nat.mul_le_mul_right _ h2
   have g3 : (p + 1) * s * (U * 2) * q = (p + 1) * x * (y * (U * 2) * z) := by
    have : (p + 1) * s * (U * 2) * q = (p + 1) * (s * q) * (U * 2) := by grind
    rw [this, ← e1]; grind
   have g4 : N' * (y * (U * 2) * z) = 2 * (N' * y * U) * z := by grind
   have g5 : C * z * q = C * q * z := by grind
   omega
 rcases Nat.le_total N N' with h | h
 ·exact main N N' h a1 b2
 ·exact (main N' N h b1 a2).symm
theorem Aj8 {p r q k : Nat} {e : Int} (hk : 769 ≤ k) (hp : 10 ^ (k - 1) ≤ p) (hp2 : p < 10 ^ k) (hq : q < 10 ^ r) (h0 : 0 < q) (hpt : (k : Int) + (e + r) ≤ 768) : Bp (p * 10 ^ r + q) e = Bp (p * 10 + 1) (e + r - 1) := by
 obtain ⟨T, hT⟩ : ∃ T : Nat, T = 768 := ⟨_, rfl⟩
 have hr : 0 < r := by
  rcases Nat.eq_zero_or_pos r with h | h
  ·rw [h, Nat.pow_zero] at hq; omega
  ·exact h
 obtain ⟨j, rfl⟩ : ∃ j, r = j + 1 := ⟨r - 1, by omega⟩
 have e1 : Bp ((p * 10 + 1) * 10 ^ j) e = Bp (p * 10 + 1) (e + (j + 1 : Nat) - 1) := by
  rw [D0]
  exact congrArg (Bp _) (by omega)
 rw [← e1]
 have hj := Au j
 have hpT : 10 ^ T ≤ p := Nat.le_trans (Nat.pow_le_pow_right (by omega) (by omega)) hp
 refine Ae6 hT hpT ?_ ?_ ?_ ?_ (r := j + 1) ?_
 ·omega
 ·rw [Nat.add_mul, Nat.one_mul]; omega
 ·rw [Nat.pow_succ]; grind
 ·rw [Nat.pow_succ]; grind
 ·have h1 : (p + 1) * 10 ^ (e + (j + 1 : Nat)).toNat ≤ 10 ^ k * 10 ^ (e + (j + 1 : Nat)).toNat := Nat.mul_le_mul_right _ hp2
  have h2 : 10 ^ k * 10 ^ (e + (j + 1 : Nat)).toNat ≤ 10 ^ T * 10 ^ (-(e + (j + 1 : Nat))).toNat := by
   rw [← Nat.pow_add, ← Nat.pow_add]
   exact Nat.pow_le_pow_right (by omega) (by omega)
  exact Nat.le_trans h1 h2
end
section
theorem Az (k : Nat) : 0 < 2 ^ k := Nat.two_pow_pos k
theorem Rg {N n q t A B D : Nat} (hq : N = q * n + t) (hn : 0 < n) (hD : Bi (N * 2 ^ A) (2 ^ B * n) = D) (hbig : 2 ^ 60 ≤ q) : A + 7 ≤ D + B := by
 have s2 := (Fa (Nat.mul_pos (Az B) hn) hD).2
 rcases Nat.lt_or_ge (D + B) (A + 7) with h | h
 ·exfalso
  have h1 : 2 ^ 60 * n ≤ N := by
   have := Nat.mul_le_mul_right n hbig
   omega
  have h2 : 2 ^ 60 * n * 2 ^ A ≤ N * 2 ^ A := Nat.mul_le_mul_right _ h1
  have h3 : 2 ^ D * 2 ^ B ≤ 2 ^ (A + 6) := by rw [← Nat.pow_add]; exact Nat.pow_le_pow_right (by omega) (by omega)
  have h4 : (2 : Nat) ^ (A + 6) = 2 ^ A * 64 := by rw [Nat.pow_add]
  have h5 : 9007199254740992 * 2 ^ D * (2 ^ B * n) = 9007199254740992 * (2 ^ D * 2 ^ B) * n := by grind
  rw [h5] at s2
  have h6 : 9007199254740992 * (2 ^ D * 2 ^ B) * n ≤ 9007199254740992 * (2 ^ A * 64) * n := Nat.mul_le_mul_right _ (Nat.mul_le_mul_left _ (by omega))
  have h7 : (2 : Nat) ^ 60 = 1152921504606846976 := by decide
  rw [h7] at h2
  have hP := Az A
  generalize 2 ^ A = P at *
  have h8 : 9007199254740992 * (P * 64) * n = 576460752303423488 * (n * P) := by grind
  have h9 : 1152921504606846976 * n * P = 1152921504606846976 * (n * P) := Nat.mul_assoc _ _ _
  omega
 ·exact h
theorem Afo {m N n q t s : Nat} {ten last : Int} (hN : N = m * 5 ^ ten.toNat * 2 ^ (ten - last).toNat) (hn : n = 5 ^ (-ten).toNat * 2 ^ (last - ten).toNat) (hq : N = q * n + t) (ht : t < n) (hs : s = if t = 0 then 0 else 1) (hbig : last = -1076 ∨ 2 ^ 60 ≤ q) :
  Bp m ten = rnd ((q ||| s) * 2 ^ (last + 1074).toNat) (2 ^ (-(last + 1074)).toNat) := by
 obtain ⟨K, hK, hd⟩ := Fj
 obtain ⟨A, hA⟩ : ∃ A, (last + 1074).toNat = A := ⟨_, rfl⟩
 obtain ⟨B, hB⟩ : ∃ B, (-(last + 1074)).toNat = B := ⟨_, rfl⟩
 have hn0 : 0 < n := by omega
 obtain ⟨D, hD⟩ : ∃ D, Bi (N * 2 ^ A) (2 ^ B * n) = D := ⟨_, rfl⟩
 have key : A + 2 ≤ D + B := by
  rcases hbig with h | h
  ·omega
  ·have := Rg hq hn0 hD h
   omega
 obtain ⟨d, hd2⟩ : ∃ d, D + B = A + d := ⟨D + B - A, by omega⟩
 rw [hA, hB, (Yb hn0 hq ht hs hD hd2 (by omega)).2 (by omega), hd]
 refine Ll (Au _) (Nat.mul_pos (Az B) hn0) ?_
 rw [hN, hn, show (10 : Nat) = 5 * 2 from rfl, Nat.mul_pow, Nat.mul_pow]
 have e1 : 2 ^ ten.toNat * 2 ^ K * 2 ^ B * 2 ^ (last - ten).toNat = 2 ^ (ten - last).toNat * 2 ^ A * 2 ^ (-ten).toNat := by
  rw [← Nat.pow_add, ← Nat.pow_add, ← Nat.pow_add, ← Nat.pow_add, ← Nat.pow_add]
  congr 1
  omega
 generalize 5 ^ ten.toNat = f at *
 generalize 5 ^ (-ten).toNat = g at *
 generalize 2 ^ ten.toNat = x1 at *
 generalize 2 ^ K = x2 at *
 generalize 2 ^ B = x3 at *
 generalize 2 ^ (last - ten).toNat = x4 at *
 generalize 2 ^ (ten - last).toNat = y1 at *
 generalize 2 ^ A = y2 at *
 generalize 2 ^ (-ten).toNat = y3 at *
 have a1 : m * (f * x1) * x2 * (x3 * (g * x4)) = m * f * g * (x1 * x2 * x3 * x4) := by grind
 have a2 : m * f * y1 * y2 * (g * y3) = m * f * g * (y1 * y2 * y3) := by grind
 rw [a1, a2, e1]
theorem Aej {m N q t s k up a b : Nat} (hN : N = m * 2 ^ up) (hq : N = q * 10 ^ k + t) (ht : t < 10 ^ k) (hs : s = if t = 0 then 0 else 1) (hbig : 2 ^ 60 ≤ q) (ha : a = 1074 - up) (hb : b = up - 1074) :
  rnd ((2 * q + s) * 2 ^ a) (2 ^ (b + 1)) = Bp m (-(k : Int)) := by
 obtain ⟨K, hK, hd⟩ := Fj
 obtain ⟨n, hn⟩ : ∃ n, 10 ^ k = n := ⟨_, rfl⟩
 rw [hn] at hq ht
 have hn0 : 0 < n := by omega
 obtain ⟨D, hD⟩ : ∃ D, Bi (N * 2 ^ a) (2 ^ b * n) = D := ⟨_, rfl⟩
 have key := Rg hq hn0 hD hbig
 obtain ⟨d, hd2⟩ : ∃ d, D + b = a + d := ⟨D + b - a, by omega⟩
 rw [(Yb hn0 hq ht hs hD hd2 (by omega)).1, hd, show (-(k : Int)).toNat = 0 by omega, show (-(-(k : Int))).toNat = k by omega, hn, Nat.pow_zero, Nat.mul_one]
 refine Ll (Nat.mul_pos (Az b) hn0) hn0 ?_
 rw [hN]
 have e1 : 2 ^ up * 2 ^ a = 2 ^ K * 2 ^ b := by
  rw [← Nat.pow_add, ← Nat.pow_add]
  congr 1
  omega
 generalize 2 ^ up = x1 at *
 generalize 2 ^ a = x2 at *
 generalize 2 ^ K = y1 at *
 generalize 2 ^ b = y2 at *
 have a1 : m * x1 * x2 * n = m * n * (x1 * x2) := by grind
 have a2 : m * y1 * (y2 * n) = m * n * (y1 * y2) := by grind
 rw [a1, a2, e1]
theorem Ahz {n L drop A B D : Nat} (h1 : n < 2 ^ L) (h2 : L = 0 ∨ 2 ^ (L - 1) ≤ n) (hL : L ≤ drop + 53) (h3 : D = 0 ∨ L = drop + 53) (hD : D + B = A + drop) :
  rnd (n * 2 ^ A) (2 ^ B) = min (D * 4503599627370496 + Db n (2 ^ drop)) 9218868437227405312 ∧ Db n (2 ^ drop) ≤ 9007199254740992 ∧ (D = 0 ∨ 4503599627370496 ≤ Db n (2 ^ drop)) := by
 have hP : 2 ^ D * 2 ^ B = 2 ^ A * 2 ^ drop := by rw [← Nat.pow_add, ← Nat.pow_add, hD]
 have hA := Az A
 have hd := Az drop
 have up : n ≤ 9007199254740992 * 2 ^ drop ∧ n < 9007199254740992 * 2 ^ drop := by
  have : 2 ^ L ≤ 9007199254740992 * 2 ^ drop := by
   rw [show (9007199254740992 : Nat) = 2 ^ 53 from rfl, ← Nat.pow_add]
   exact Nat.pow_le_pow_right (by omega) (by omega)
  omega
 have lo : D = 0 ∨ 4503599627370496 * 2 ^ drop ≤ n := by
  rcases h3 with h | h
  ·exact Or.inl h
  ·refine Or.inr ?_
   rw [show (4503599627370496 : Nat) = 2 ^ 52 from rfl, ← Nat.pow_add, show 52 + drop = L - 1 by omega]
   exact h2.resolve_left (by omega)
 have hp : Bi (n * 2 ^ A) (2 ^ B) = D := by
  refine Ed (Az B) ?_ ?_
  ·rcases lo with h | h
   ·exact Or.inl h
   ·refine Or.inr ?_
    rw [Nat.mul_assoc, hP]
    have := Nat.mul_le_mul_right (2 ^ A) h
    have e : 4503599627370496 * 2 ^ drop * 2 ^ A = 4503599627370496 * (2 ^ A * 2 ^ drop) := by rw [Nat.mul_assoc, Nat.mul_comm (2 ^ drop)]
    omega
  ·rw [Nat.mul_assoc, hP]
   have := Nat.mul_lt_mul_of_pos_right up.2 hA
   have e : 9007199254740992 * 2 ^ drop * 2 ^ A = 9007199254740992 * (2 ^ A * 2 ^ drop) := by rw [Nat.mul_assoc, Nat.mul_comm (2 ^ drop)]
   omega
 refine ⟨?_, Ab0 hd up.1, ?_⟩
 ·unfold rnd
  rw [hp, hP, Nat.mul_comm (2 ^ A), Cm hA]
 ·rcases lo with h | h
  ·exact Or.inl h
  ·exact Or.inr (Ng hd h)
theorem Zn {n h : Nat} : Db n (2 * h) = if h < n % (2 * h) ∨ (n % (2 * h) = h ∧ n / (2 * h) % 2 = 1) then n / (2 * h) + 1 else n / (2 * h) := by
 unfold Db
 generalize n % (2 * h) = r
 generalize n / (2 * h) = q
 by_cases c1 : h < r
 ·rw [if_pos (Or.inl c1), decide_eq_true (by omega), Bool.true_or]; rfl
 ·rw [decide_eq_false (show ¬ 2 * h < 2 * r by omega), Bool.false_or]
  by_cases c2 : r = h
  ·rw [decide_eq_true (by omega), Bool.true_and]
   by_cases c3 : q % 2 = 1
   ·rw [decide_eq_true c3, if_pos (Or.inr ⟨c2, c3⟩)]; rfl
   ·rw [decide_eq_false c3, if_neg (by omega)]; rfl
  ·rw [decide_eq_false (show ¬ 2 * h = 2 * r by omega), Bool.false_and, if_neg (by omega)]; rfl
end
section
theorem Vm {l : List Nat} (h : Ws l) (hv : l = [] ∨ 4294967296 ^ (l.length - 1) ≤ val l) : nrm l = l := by
 rcases hv with rfl | hv
 ·rfl
 ·have h1 := Ay l
  rcases Nat.lt_or_ge (nrm l).length l.length with h2 | h2
  ·have h3 := Dt h.nrm
   rw [Ar] at h3
   have h4 : 4294967296 ^ (nrm l).length ≤ 4294967296 ^ (l.length - 1) := Nat.pow_le_pow_right (by omega) (by omega)
   omega
  ·have h3 := Hw l
   rw [List.take_of_length_le h2] at h3
   exact h3
structure TpT (a : List Nat) (x y k : Nat) (S : List Nat) (q : Nat) : Prop where
 len : S.length = a.length
 ws : Ws S
 far : ∀ j, k ≤ j → S.getD j 0 = a.getD j 0
 sum : val (S.take k) + 4294967296 ^ k * q = x * val (a.take k) + y
 low : q < 4294967296
theorem TpT.start {a : List Nat} (ha : Ws a) {x y : Nat} (hy : y < 4294967296) : TpT a x y 0 a y := ⟨rfl, ha, fun _ _ => rfl, by simp [val], hy⟩
def tpC (a : List Nat) (x k q : Nat) : Nat := q + a.getD k 0 * x
theorem Af9 {a : List Nat} {x k q : Nat} (ha : Ws a) (hx : x < 4294967296) (hq : q < 4294967296) : a.getD k 0 * x ≤ 18446744065119617025 ∧ tpC a x k q ≤ 18446744069414584320 := by
 have h1 := ha.getD k
 have h3 : a.getD k 0 * x ≤ 4294967295 * 4294967295 := Nat.mul_le_mul (by omega) (by omega)
 unfold tpC
 omega
theorem TpT.next {a : List Nat} {x y k : Nat} {S : List Nat} {q : Nat} (h : TpT a x y k S q) (ha : Ws a) (hx : x < 4294967296) (hk : k < a.length) :
  TpT a x y (k + 1) (S.set k (tpC a x k q % 4294967296)) (tpC a x k q / 4294967296) := by
 obtain ⟨h1, h2, h3, h4, h5⟩ := h
 have hc := (Af9 (k := k) ha hx h5).2
 refine ⟨by rw [List.length_set]; exact h1, h2.set (by omega), fun j hj => by rw [Aq (by omega)]; exact h3 j (by omega), ?_, by omega⟩
 rw [Br _ k (by rw [List.length_set]; omega), Br a k hk, Bn (by omega)]
 rw [Cr (l := S.set k (tpC a x k q % 4294967296)) (m := S) k (by rw [List.length_set]; omega) (by omega) (fun j hj => Aq (by omega))]
 have e := Gb (4294967296 ^ k) (tpC a x k q) (val (S.take k)) (x * (val (a.take k) + 4294967296 ^ k * a.getD k 0) + y) (by
  have : tpC a x k q = q + a.getD k 0 * x := rfl
  rw [this]
  grind)
 rw [Nat.pow_succ]
 exact e
theorem TpT.fin {n x y q : Nat} {S : List Nat} (h : TpT (wds n) x y (wds n).length S q) (hx : 0 < x) : (if q = 0 then S else S ++ [q]) = wds (n * x + y) := by
 obtain ⟨h1, h2, h3, h4, h5⟩ := h
 rw [List.take_of_length_le (by omega), List.take_of_length_le (Nat.le_refl _), Ae] at h4
 by_cases hq : q = 0
 ·rw [if_pos hq]
  rw [hq, Nat.mul_zero, Nat.add_zero] at h4
  have hv : val S = n * x + y := by rw [h4, Nat.mul_comm]
  rw [← hv, ← Bo h2]
  refine (Vm h2 ?_).symm
  rcases Nat.eq_zero_or_pos (wds n).length with h0 | h0
  ·left; exact List.eq_nil_of_length_eq_zero (by omega)
  ·right
   have h6 := O9 (l := wds n) (by rw [If]; intro e; rw [e] at h0; simp at h0)
   rw [If, Ae] at h6
   rw [h1, hv]
   have : n * 1 ≤ n * x := Nat.mul_le_mul_left _ hx
   omega
 ·rw [if_neg hq]
  have hw : Ws (S ++ [q]) := h2.append (Ws.cons h5 Ws.nil)
  have hv : val (S ++ [q]) = n * x + y := by rw [F9, h1, h4, Nat.mul_comm]
  rw [← hv, ← Bo hw]
  refine (Vm hw (.inr ?_)).symm
  rw [F9, List.length_append, List.length_singleton, Nat.add_sub_cancel]
  have : 4294967296 ^ S.length * 1 ≤ 4294967296 ^ S.length * q := Nat.mul_le_mul_left _ (by omega)
  omega
theorem OwnW.cell {B : Nat} {l : List Nat} {g n c : Nat} {w : World} (h : OwnW B l (.slice (some ⟨g, 0, none⟩) n c) w) (k : Nat) (hk : k < l.length) :
  w.cell? ⟨g, k, none⟩ = some (.int .u32 (l.getD k 0 : Nat)) ∧ w.frozen? ⟨g, k, none⟩ = false := by
 rcases h.2 with ⟨e, _⟩ | ⟨g', cap, cur, e, hB, hg, hcap, hmax, hcur, htk⟩
 ·cases e
 ·cases e
  refine ⟨?_, by simp [World.frozen?, hg]⟩
  have := World.ownsRow.cells (g := g) h rfl k (.int .u32 (l.getD k 0 : Nat)) (by rw [List.getElem?_map, getD_some hk]; rfl)
  by_cases hz : k = 0
  ·subst hz; simpa [Addr.add] using this
  ·simpa [Addr.add, hz] using this
theorem OwnW.set {B : Nat} {l : List Nat} {g n c : Nat} {w : World} (h : OwnW B l (.slice (some ⟨g, 0, none⟩) n c) w) (k u : Nat) :
  OwnW B (l.set k u) (.slice (some ⟨g, 0, none⟩) n c) (w.setCell ⟨g, k, none⟩ (.int .u32 (u : Nat))) := by
 rcases h.2 with ⟨e, _⟩ | ⟨g', cap, cur, e, hB, hg, hcap, hmax, hcur, htk⟩
 ·cases e
 ·cases e
  refine ⟨by rw [List.length_map, List.length_set, Nat.mul_one], .inr ⟨g, c, cur.set! k (.int .u32 (u : Nat)), by rw [List.length_set], hB, ?_, by rw [List.length_set]; exact hcap, hmax, ?_, ?_⟩⟩
  ·simp [World.setCell, Array.getElem?_modify, hg]
  ·simpa using hcur
  ·rw [List.map_set, ← htk]
   simp only [Array.set!_eq_setIfInBounds, Array.toList_setIfInBounds, List.length_set]
   rw [List.take_set]
theorem Qh (B : Nat) (v : Value) (n x y : Nat) (w : World) (h : OwnW B (wds n) v w) (hB : B ≤ w.heap.size) (hl : (wds n).length ≤ 1024) (hx : x < 4294967296) (hx0 : 0 < x) (hy : y < 4294967296) :
  Cp 173 #[v, .int .u32 x, .int .u32 y] w fun e w' => ∃ v', e = .returned v' ∧ OwnW B (wds (n * x + y)) v' w' ∧ Below B w w' := by
 obtain ⟨i0, hi, hz0, hz1, hz2⟩ := info_parts Ef
 have hy1 : IntKind.u64.wrap (y : Int) = (y : Int) := IntWalk.u64_in _ (by omega)
 have hx1 : IntKind.u64.wrap (x : Int) = (x : Int) := IntWalk.u64_in _ (by omega)
 have HX := Lh hx
 have HX0 := Lh hx0
 have HST := Lh (TpT.start (x := x) (Bh n) hy)
 rcases h.2 with ⟨rfl, h0⟩ | ⟨g, cap, cur, rfl, hBg, hg, hcap, hmax, hcur, htk⟩
 ·have hnil : wds n = [] := List.eq_nil_of_length_eq_zero h0
  have hn0 : n = 0 := by rw [← Ae n, hnil]; rfl
  have HF := Lh (show (if y = 0 then ([] : List Nat) else [y]) = wds (n * x + y) from by
   have := (show TpT (wds n) x y (wds n).length [] y from by rw [hnil]; exact TpT.start Ws.nil hy).fin hx0
   rw [← this]; rfl)
  have hOn : OwnW B [] (.slice none 0 0) w := OwnW.nil _ _
  by_cases hy0 : y = 0
  ·rw [if_pos hy0] at HF
   have b0 : ((y : Int) == 0) = true := by rw [hy0]; rfl
   clear h hl hx hx0 hy h0 hnil hn0 hy0 HST
   go_enter Tryz.func173, Tryz.ntmps173
   go_wp2
   go_loopw [14, 7] (fun iv cv wr => iv = .int .i64 0 ∧ cv = .int .u64 (y : Nat) ∧ w = wr) (fun _ _ _ => 0)
   case atStart => exact ⟨rfl, rfl, rfl⟩
   case round =>
    obtain ⟨rfl, rfl, rfl⟩ := hrel
    go_wp2
    go_ret
    exact ⟨_, rfl, by rw [← HF.out]; exact hOn, Below.refl _ _⟩
  ·rw [if_neg hy0] at HF
   have b0 : ((y : Int) == 0) = false := by simp; omega
   have k1 : IntKind.u32.wrap (y : Int) = (y : Int) := IntWalk.u32_in _ (by omega)
   clear h hl hx hx0 hy h0 hnil hn0 hy0 HST
   go_enter Tryz.func173, Tryz.ntmps173
   go_wp2
   go_loopw [14, 7] (fun iv cv wr => iv = .int .i64 0 ∧ cv = .int .u64 (y : Nat) ∧ w = wr) (fun _ _ _ => 0)
   case atStart => exact ⟨rfl, rfl, rfl⟩
   case round =>
    obtain ⟨rfl, rfl, rfl⟩ := hrel
    go_wp2_with (at_builtin; refine wpList_append_own _ rfl _ _ 121 rfl B 129 i0 (.int .u32 0) 1 4 Tryz.underlying121 hi hz0 hz1 hz2 rfl (by decide) _ _ _ rfl (World.ownsRow.alloc (w := w) hOn _) ⟨w.heap.size, 0, none⟩ 1 1 [.int .u32 (y : Nat)] rfl rfl ?c1 ?c2 ?c3 ?c4 ?c5 ?_)
    case c1 => exact (cell_one_new _ _ _)
    case c2 => simp [Value.oneCell']
    case c3 => simp [maxLen]
    case c4 => simp
    case c5 => simp; omega
    intro v' w2 hown hgr _
    have HO2 := Lh (OwnW.snoc (L := []) hown)
    have hbb : Below B w w2 := ((Below.refl _ _).alloc hB _).grown hgr (by simp; omega) (fun j hj => by simp [Value.ownBlock] at hj)
    clear hown hgr
    go_wp2
    go_ret
    exact ⟨_, rfl, by rw [← HF.out]; exact HO2.out, hbb⟩
 ·obtain ⟨N, hN⟩ : ∃ N, (wds n).length = N := ⟨_, rfl⟩
  have HO0 := Lh h
  have HN := Lh hN
  have HWS := Lh (Bh n)
  rw [hN] at hl hcap HO0 ⊢
  have hN1 : (N : Int) ≤ 1024 := by omega
  clear h hx hx0 hy hg hcur htk hN hmax
  go_enter Tryz.func173, Tryz.ntmps173
  go_wp2
  go_loopw [14, 7] (fun iv cv wr => ∃ (k : Nat) (S : List Nat) (q : Nat), iv = .int .i64 (k : Nat) ∧ cv = .int .u64 (q : Nat) ∧ k ≤ N ∧ Hid (OwnW B S (.slice (some ⟨g, 0, none⟩) N cap) wr) ∧ Hid (TpT (wds n) x y k S q) ∧ Below B w wr) (fun iv _ _ => N - (intOf iv).toNat)
  case atStart => exact ⟨0, wds n, y, rfl, rfl, Nat.zero_le _, HO0, HST, Below.refl _ _⟩
  case round =>
   obtain ⟨k, S, q, rfl, rfl, hk, HO, HT, hbw⟩ := hrel
   by_cases hlt : k < N
   ·have hkl : k < (wds n).length := by rw [HN.out]; exact hlt
    have hnx := HT.out.next HWS.out HX.out hkl
    obtain ⟨hcell, hfz⟩ := HO.out.cell k (by rw [HT.out.len]; exact hkl)
    rw [HT.out.far k (Nat.le_refl _)] at hcell
    obtain ⟨l1, l2⟩ := Af9 (k := k) HWS.out HX.out HT.out.low
    have ul := HWS.out.getD k
    have ql := HT.out.low
    have et : tpC (wds n) x k q = q + (wds n).getD k 0 * x := rfl
    obtain ⟨t, ht⟩ : ∃ t, tpC (wds n) x k q = t := ⟨_, rfl⟩
    obtain ⟨u, hu⟩ : ∃ u, (wds n).getD k 0 = u := ⟨_, rfl⟩
    rw [ht] at hnx l2 et
    rw [hu] at hcell l1 ul et
    have HOS := Lh (HO.out.set k (t % 4294967296))
    have HNX := Lh hnx
    have k1 : IntKind.u64.wrap (u : Int) = (u : Int) := IntWalk.u64_in _ (by omega)
    have k2 : IntKind.u64.wrap ((u : Int) * (x : Int)) = (u : Int) * (x : Int) := IntWalk.u64_in _ (by
     have : ((u * x : Nat) : Int) = (u : Int) * (x : Int) := Int.natCast_mul u x
     omega)
    have k3 : IntKind.u64.wrap ((q : Int) + (u : Int) * (x : Int)) = (t : Int) := by
     have : ((u * x : Nat) : Int) = (u : Int) * (x : Int) := Int.natCast_mul u x
     rw [IntWalk.u64_in _ (by omega)]
     omega
    have hk1 : (k : Int) < (N : Int) := by omega
    rw [show ((t % 4294967296 : Nat) : Int) = (t : Int) % 4294967296 by omega] at HOS
    clear hkl hnx l1 l2 ul ql et ht hu
    go_wp2
    go_roundw
    case rel => exact ⟨k + 1, _, t / 4294967296, by go_num, by go_num, by omega, HOS, HNX, hbw.setCell hBg _⟩
    case measure => simp [intOf]; omega
   ·have hkN : k = N := by omega
    have hT2 : TpT (wds n) x y (wds n).length S q := by rw [HN.out, ← hkN]; exact HT.out
    have HF := Lh (hT2.fin HX0.out)
    have hql := HT.out.low
    have hSl := HT.out.len
    have hSW := HT.out.ws
    by_cases hq0 : q = 0
    ·rw [if_pos hq0] at HF
     have b0 : ((q : Int) == 0) = true := by rw [hq0]; rfl
     clear hT2 hql hSl hSW hq0 hkN
     go_wp2
     go_ret
     exact ⟨_, rfl, by rw [← HF.out]; exact HO.out, hbw⟩
    ·rw [if_neg hq0] at HF
     have b0 : ((q : Int) == 0) = false := by simp; omega
     have k1 : IntKind.u32.wrap (q : Int) = (q : Int) := IntWalk.u32_in _ (by omega)
     have HSL := Lh (show (N + 1) * 4 ≤ 140737488355328 ∧ N + 1 ≤ maxLen ∧ S.length = N from by unfold maxLen; rw [hSl, HN.out]; omega)
     have hbs := hbw.size
     have hon : wr.ownsRow B 129 1 (.slice (some ⟨g, 0, none⟩) N cap) N (S.map fun u => Value.int .u32 (u : Nat)) := by
      have := HO.out
      unfold OwnW at this
      rw [HSL.out.2.2] at this
      exact this
     have HON := Lh hon
     clear hT2 hql hSl hSW hq0 hkN hon
     go_wp2_with (at_builtin; refine wpList_append_own _ rfl _ _ 121 rfl B 129 i0 (.int .u32 0) 1 4 Tryz.underlying121 hi hz0 hz1 hz2 rfl (by decide) _ _ _ rfl (World.ownsRow.alloc (w := wr) HON.out _) ⟨wr.heap.size, 0, none⟩ 1 1 [.int .u32 (q : Nat)] rfl rfl ?c1 ?c2 ?c3 ?c4 ?c5 ?_)
     case c1 => exact (cell_one_new _ _ _)
     case c2 => simp [Value.oneCell']
     case c3 => exact HSL.out.2.1
     case c4 => exact HSL.out.1
     case c5 => simp; omega
     intro v' w2 hown hgr _
     rw [← HSL.out.2.2] at hown
     have HO2 := Lh (OwnW.snoc hown)
     have hbb : Below B w w2 := (hbw.alloc (by omega) _).grown hgr (by simp; omega) (fun j hj => (World.ownsRow.lt HO.out j hj).1)
     clear hown hgr
     go_wp2
     go_ret
     exact ⟨_, rfl, by rw [← HF.out]; exact HO2.out, hbb⟩
theorem OwnW.below {B : Nat} {l : List Nat} {v : Value} {w w' : World} (h : OwnW B l v w) (hb : Below w.heap.size w w') : OwnW B l v w' := by
 refine World.ownsRow.kept (row := none) h ⟨hb.os, hb.tape, hb.output, hb.size, fun k hk _ => hb.block k hk⟩ ?_
 cases v.ownBlock <;> simp
theorem Abx {v : Nat} (h : An v = false) : (wds v).length ≤ 1024 := by
 unfold An at h
 have := of_decide_eq_false h
 omega
theorem Kj {v u : Nat} (h : u ≤ v) (hu : An u = true) : An v = true := by
 unfold An at hu ⊢
 have h1 := of_decide_eq_true hu
 have h2 := Bl (n := u) (k := (wds v).length) (Nat.lt_of_le_of_lt h (Gq v))
 exact decide_eq_true (by omega)
theorem Jl (v u : Nat) : (wds (v + u)).length ≤ max (wds v).length (wds u).length + 1 := by
 refine Bl ?_
 have h1 := Gq v
 have h2 := Gq u
 have h3 : 4294967296 ^ (wds v).length ≤ 4294967296 ^ max (wds v).length (wds u).length := Nat.pow_le_pow_right (by omega) (by omega)
 have h4 : 4294967296 ^ (wds u).length ≤ 4294967296 ^ max (wds v).length (wds u).length := Nat.pow_le_pow_right (by omega) (by omega)
 have := Kk (max (wds v).length (wds u).length)
 omega
theorem E2 (v u : Nat) : (wds (v * u)).length ≤ (wds v).length + (wds u).length := by
 refine Bl ?_
 rw [Nat.pow_add]
 exact Nat.mul_lt_mul'' (Gq v) (Gq u)
def sv (r : Nat) (s : ByteArray) : Nat := pv r (fun i => dgt (btn s i)) s.size
structure Rest (s : ByteArray) (o : Nat) (t : ByteArray) : Prop where
 le : o ≤ s.size
 size : t.size = s.size - o
 byte : ∀ i, i < t.size → btn t i = btn s (o + i)
theorem Lp (t : ByteArray) (a b i : Nat) (hi : i < b - a) (hb : b ≤ t.size) : btn (t.extract a b) i = btn t (a + i) := by
 have h1 : i < (t.extract a b).size := by rw [ByteArray.size_extract]; omega
 rw [← Dp _ i h1, ← Dp t (a + i) (by omega), ByteArray.getElem_extract]
theorem Rest.all (s : ByteArray) : Rest s 0 s := ⟨Nat.zero_le _, rfl, fun i _ => by rw [Nat.zero_add]⟩
theorem Rest.next {s t : ByteArray} {o m : Nat} (h : Rest s o t) (hm : m ≤ t.size) : Rest s (o + m) (t.extract m t.size) :=
 ⟨by have := h.le; have := h.size; omega, by rw [ByteArray.size_extract, h.size]; omega, fun i hi => by
  have h1 : i < t.size - m := by rw [ByteArray.size_extract] at hi; omega
  rw [Lp t m t.size i h1 (Nat.le_refl _), h.byte _ (by omega), Nat.add_assoc]⟩
def Zk : Value → Nat
 | .string s => s.size
 | _ => 0
theorem Va (s : ByteArray) (r : Nat) (w : World) (hs : s.size ≤ 4611686018427387903) (h2 : 2 ≤ r) (h36 : r ≤ 36) (hd : adB r s = true) :
  Cp 130 #[.string s, .int .i64 r] w (NatPost (sv r s) w) := by
 have c1 := Qg s r w hs h36
 have C2 := Lh (fun W => Afh r W h2 h36)
 rw [hd] at c1
 have hdd : ∀ i, i < s.size → dgt (btn s i) < r := by
  unfold adB at hd
  exact of_decide_eq_true (Bool.and_eq_true _ _ ▸ hd : _ ∧ _).2
 have HD := Lh hdd
 have H2 := Lh h2
 have H36 := Lh h36
 have hr1 : ¬ (r : Int) < 2 := by omega
 have hr2 : ¬ (36 : Int) < (r : Int) := by omega
 have hs1 : (s.size : Int) ≤ 4611686018427387903 := by omega
 clear hd hdd hs h2 h36
 go_enter Tryz.func130, Tryz.ntmps130
 go_wp2_with fail
 refine c1.mono ?_
 rintro e w1 ⟨rfl, rfl⟩
 go_wp2_with fail
 refine (C2.out _).mono ?_
 rintro e w1 ⟨⟨c, p, rfl, hp, hc1, hc2, hpl⟩, rfl⟩
 have HP := Lh hp
 have HPL := Lh hpl
 have HC1 := Lh hc1
 have hc0 : (c : Int) ≤ 32 := by omega
 clear hp hpl hc1 hc2 c1 C2
 go_wp2
 go_loopw [0, 8] (fun tv av wr => ∃ (t : ByteArray) (o : Nat), tv = .string t ∧ Hid (Rest s o t) ∧ Hid (OwnW w.heap.size (wds (pv r (fun i => dgt (btn s i)) o)) av wr) ∧ Hid (An (pv r (fun i => dgt (btn s i)) o) = false) ∧ Below w.heap.size w wr) (fun tv _ _ => Zk tv)
 case atStart => exact ⟨s, 0, rfl, Lh (Rest.all s), Lh (OwnW.nil _ _), Lh (Ec (by simp [pv])), Below.refl _ _⟩
 case round =>
  obtain ⟨t, o, rfl, HR, HO, HL, hbw⟩ := hrel
  obtain ⟨V, hV⟩ : ∃ V, pv r (fun i => dgt (btn s i)) o = V := ⟨_, rfl⟩
  rw [hV] at HO HL
  have HV := Lh hV
  have hle := Abx HL.out
  obtain ⟨A0, c0, rfl, hc0', hr0⟩ := HO.out.sl (Bh V)
  obtain ⟨L0, hL0⟩ : ∃ L, (wds V).length = L := ⟨_, rfl⟩
  have hts : (t.size : Int) ≤ 4611686018427387903 := by have := HR.out.size; omega
  by_cases h0 : t.size = 0
  ·have C1 := Lh (F7 A0 L0 c0 (wds V) wr hL0 (by omega) (by omega) hr0)
   rw [Ae] at C1
   have HFV := Lh (show V = sv r s from by
    have h1 := HR.out.size
    have h2 := HR.out.le
    rw [← HV.out]; unfold sv; congr 1; omega)
   have HL0 := Lh hL0
   rw [hL0]
   have b0 : ¬ (0 : Int) < (t.size : Int) := by omega
   clear hV hle hc0' hr0 hL0 h0
   go_wp2_with fail
   refine C1.out.mono ?_
   rintro e w2 h
   have h2 := NatPost.from_ hbw h
   rw [HFV.out] at h2
   obtain ⟨A2, n2, c2, k2, rfl, h3, h4⟩ := h2
   have H3 := Lh h3
   have H4 := Lh h4
   clear h h3 h4 C1
   go_wp2
   go_ret2
   exact ⟨A2, n2, c2, k2, rfl, H3.out, H4.out⟩
  ·obtain ⟨m, hm⟩ : ∃ m, min c t.size = m := ⟨_, rfl⟩
   have hc1 := HC1.out
   have hm0 : 0 < m := by omega
   have hmt : m ≤ t.size := by omega
   have hmc : (m = c ∧ (c : Int) ≤ (t.size : Int)) ∨ (m = t.size ∧ ¬ (c : Int) ≤ (t.size : Int)) := by omega
   have hRn := HR.out.next hmt
   have hsz : (t.extract 0 m).size = m := by rw [ByteArray.size_extract]; omega
   have hby : ∀ i, i < m → btn (t.extract 0 m) i = btn s (o + i) := fun i hi => by
    rw [Lp t 0 m i (by omega) hmt, Nat.zero_add]; exact HR.out.byte i (by omega)
   have hom : o + m ≤ s.size := hRn.le
   have hpm : r ^ m < 4294967296 := by
    have h1 : r ^ m ≤ r ^ c := Nat.pow_le_pow_right (by have := H2.out; omega) (by omega)
    have h2 := HPL.out
    rw [HP.out] at h2
    omega
   have hpm0 : 0 < r ^ m := Nat.pow_pos (by have := H2.out; omega)
   have hpv : pv r (fun i => dgt (btn (t.extract 0 m) i)) m = pv r (fun i => dgt (btn s (o + i))) m := H9 (fun i hi => by rw [hby i hi])
   have C1 := Lh (fun W => show Cp 172 #[.string (t.extract 0 m), .int .i64 r] W fun e w' => e = .returned (.tuple #[.int .u32 (pv r (fun i => dgt (btn s (o + i))) m : Nat), .int .u32 (r ^ m : Nat)]) ∧ W = w' from by
    have := Adj (t.extract 0 m) r W H36.out H2.out (by rw [hsz]; exact hpm) (fun i hi => by rw [hsz] at hi; rw [hby i hi]; exact HD.out _ (by omega))
    rw [hsz, hpv] at this
    exact this)
   have hyl : pv r (fun i => dgt (btn s (o + i))) m < 4294967296 := Nat.lt_trans (Abo (fun i hi => HD.out _ (by omega))) hpm
   have hadd := Zb r (fun i => dgt (btn s i)) o m
   rw [hV] at hadd
   obtain ⟨x, hx⟩ : ∃ x, r ^ m = x := ⟨_, rfl⟩
   obtain ⟨y, hy⟩ : ∃ y, pv r (fun i => dgt (btn s (o + i))) m = y := ⟨_, rfl⟩
   rw [hx] at C1 hpm hpm0 hadd
   rw [hy] at C1 hyl hadd
   have C2 := Lh (Qh w.heap.size (.slice A0 L0 c0) V x y wr (by have := HO.out; rw [hL0] at this; exact this) hbw.size hle hpm hpm0 hyl)
   obtain ⟨V2, hV2⟩ : ∃ V2, V * x + y = V2 := ⟨_, rfl⟩
   rw [hV2] at C2 hadd
   have HV2 := Lh hadd
   have l1 : (wds V2).length ≤ 1026 := by
    have h1 := E2 V x
    have h2 := Jl (V * x) y
    have h3 : (wds x).length ≤ 1 := Bl (by omega)
    have h4 : (wds y).length ≤ 1 := Bl (by omega)
    rw [hV2] at h2
    omega
   have HLE2 := Lh l1
   have HRN := Lh hRn
   have HMONO := Lh (show V2 ≤ sv r s from by rw [← hadd]; exact My (by have := H2.out; omega) hom)
   have HM0 := Lh hm0
   have hmt1 : (m : Int) ≤ (t.size : Int) := by omega
   have b0 : (0 : Int) < (t.size : Int) := by omega
   rw [hL0]
   clear hV hle hc0' hr0 hL0 h0 hm hc1 hm0 hmt hRn hsz hby hom hpm hpm0 hpv hyl hadd hx hy hV2 l1
   rcases hmc with ⟨rfl, a1⟩ | ⟨rfl, a1⟩
   ·have e0 : min (m : Int) (t.size : Int) = (m : Int) := Int.min_eq_left a1
    go_wp2_with fail
    refine Sm (C1.out _) ?_
    go_wp2_with fail
    refine C2.out.mono ?_
    rintro e w2 ⟨v2, rfl, ho2, hb2⟩
    have hbw2 : Below w.heap.size w w2 := hbw.trans hb2
    obtain ⟨A2, c2, rfl, hc2, hr2⟩ := ho2.sl (Bh _)
    obtain ⟨L2, hL2⟩ : ∃ L, (wds V2).length = L := ⟨_, rfl⟩
    rw [hL2] at hc2 ho2 ⊢
    have C3 := Lh (Dk A2 L2 c2 (wds V2) w2 hL2 hc2 (by have := HLE2.out; omega) hr2)
    rw [Ae] at C3
    have HO2 := Lh ho2
    have hp : Below w2.heap.size w2 (lone w2 (.slice A2 L2 c2)) := (Below.refl _ _).alloc (Nat.le_refl _) _
    have HB2 := Lh (Aa hbw2 hp)
    have HO3 := Lh (ho2.below hp)
    have HL2 := Lh hL2
    clear ho2 hb2 hbw2 hc2 hr2 hL2 hp C1 C2
    cases hl : An V2
    ·rw [hl] at C3
     have HLN := Lh hl
     clear hl
     go_wp2_with fail
     refine C3.out.mono ?_
     rintro e w3 ⟨rfl, rfl⟩
     go_wp2
     exact ⟨⟨_, _, rfl, HRN, Lh (by rw [HV2.out]; exact HO3.out), Lh (by rw [HV2.out]; exact HLN.out), HB2.out⟩, by
      have h1 := HM0.out
      have h2 := HRN.out.size
      have h3 := HRN.out.le
      have h4 := HR.out.size
      simp only [Zk]
      omega⟩
    ·rw [hl] at C3
     have HLN := Lh (Kj HMONO.out hl)
     clear hl
     go_wp2_with fail
     refine C3.out.mono ?_
     rintro e w3 ⟨rfl, rfl⟩
     go_wp2
     go_ret2
     exact NatPost.long HLN.out HB2.out
   ·have e0 : min (c : Int) (t.size : Int) = (t.size : Int) := Int.min_eq_right (by omega)
    rw [show t.extract 0 t.size = t from by simp] at C1
    rw [show t.extract t.size t.size = ByteArray.empty from by simp] at HRN
    go_wp2_with fail
    refine Sm (C1.out _) ?_
    go_wp2_with fail
    refine C2.out.mono ?_
    rintro e w2 ⟨v2, rfl, ho2, hb2⟩
    have hbw2 : Below w.heap.size w w2 := hbw.trans hb2
    obtain ⟨A2, c2, rfl, hc2, hr2⟩ := ho2.sl (Bh _)
    obtain ⟨L2, hL2⟩ : ∃ L, (wds V2).length = L := ⟨_, rfl⟩
    rw [hL2] at hc2 ho2 ⊢
    have C3 := Lh (Dk A2 L2 c2 (wds V2) w2 hL2 hc2 (by have := HLE2.out; omega) hr2)
    rw [Ae] at C3
    have HO2 := Lh ho2
    have hp : Below w2.heap.size w2 (lone w2 (.slice A2 L2 c2)) := (Below.refl _ _).alloc (Nat.le_refl _) _
    have HB2 := Lh (Aa hbw2 hp)
    have HO3 := Lh (ho2.below hp)
    have HL2 := Lh hL2
    clear ho2 hb2 hbw2 hc2 hr2 hL2 hp C1 C2
    cases hl : An V2
    ·rw [hl] at C3
     have HLN := Lh hl
     clear hl
     go_wp2_with fail
     refine C3.out.mono ?_
     rintro e w3 ⟨rfl, rfl⟩
     go_wp2
     exact ⟨⟨_, _, rfl, HRN, Lh (by rw [HV2.out]; exact HO3.out), Lh (by rw [HV2.out]; exact HLN.out), HB2.out⟩, by
      have h1 := HM0.out
      have h2 := HRN.out.size
      have h3 := HRN.out.le
      have h4 := HR.out.size
      simp only [Zk]
      omega⟩
    ·rw [hl] at C3
     have HLN := Lh (Kj HMONO.out hl)
     clear hl
     go_wp2_with fail
     refine C3.out.mono ?_
     rintro e w3 ⟨rfl, rfl⟩
     go_wp2
     go_ret2
     exact NatPost.long HLN.out HB2.out
theorem Of (A : Option Addr) (n c g x : Nat) (l : List Nat) (N : Nat) (W : World) (hn : l.length = n) (hm : n ≤ 1024) (h : RW W W.heap.size A l) (g1 : RW W W.heap.size (some ⟨g, 0, none⟩) [x]) (hN : (wds (val l * x)).length = N) :
  Cp 138 #[.slice A n c, .slice (some ⟨g, 0, none⟩) 1 1] W (Ji (wds (val l * x)) N W) := by
 have := Rl A (some ⟨g, 0, none⟩) n c 1 1 l [x] W hn (by omega) h rfl (by omega) g1
 rw [show val [x] = x from by simp [val]] at this
 exact this.mono fun _ _ y => y.told hN
theorem Tf (A : Option Addr) (n c g x : Nat) (l : List Nat) (N : Nat) (W : World) (hn : l.length = n) (hm : n ≤ 4096) (h : RW W W.heap.size A l) (g1 : RW W W.heap.size (some ⟨g, 0, none⟩) [x]) (hN : (wds (val l + x)).length = N) :
  Cp 137 #[.slice A n c, .slice (some ⟨g, 0, none⟩) 1 1] W (Ji (wds (val l + x)) N W) := by
 have := E9 A (some ⟨g, 0, none⟩) n c 1 1 l [x] W hn (by omega) h rfl (by omega) g1
 rw [show val [x] = x from by simp [val]] at this
 exact this.mono fun _ _ y => y.told hN
theorem Hg (W : World) (x : Nat) (hx : x < 4294967296) : RW (W.alloc (.cells #[.int .u32 (x : Int)] 129)) (W.alloc (.cells #[.int .u32 (x : Int)] 129)).heap.size (some ⟨W.heap.size, 0, none⟩) [x] := (Ab8 W x hx).more (by simp)
theorem Fd {w W : World} (o : Obj) (h : Below w.heap.size w W) : Below w.heap.size w (W.alloc o) := h.alloc h.size _
theorem Ada (s : ByteArray) (r : Nat) (w : World) (hs : s.size ≤ 4611686018427387903) (h2 : 2 ≤ r) (h36 : r ≤ 36) (hd : ∀ i, i < s.size → dgt (btn s i) < r) (h0 : 0 < s.size) :
  Cp 195 #[.string s, .int .i64 r] w (NatPost (sv r s) w) := by
 have HD := Lh hd
 have H2 := Lh h2
 have H36 := Lh h36
 have hr1 : ¬ (r : Int) < 2 := by omega
 have hr2 : ¬ (36 : Int) < (r : Int) := by omega
 have hs1 : (s.size : Int) ≤ 4611686018427387903 := by omega
 have hs0 : ((s.size : Int) == 0) = false := by rw [beq_eq_false_iff_ne]; omega
 have kr : IntKind.u32.wrap (r : Int) = (r : Int) := IntWalk.u32_in _ (by omega)
 clear hd hs h2 h36 h0
 go_enter Tryz.func195, Tryz.ntmps195
 go_wp2
 go_loopw [6] (fun iv wr => ∃ k : Nat, iv = .int .i64 (k : Nat) ∧ k ≤ s.size ∧ w = wr) (fun iv _ => s.size - (intOf iv).toNat)
 case atStart => exact ⟨0, rfl, Nat.zero_le _, rfl⟩
 case round =>
  obtain ⟨k, rfl, hk, rfl⟩ := hrel
  by_cases hlt : k < s.size
  ·have C1 := Lh (fun W => show Cp 108 #[.int .u8 ((s[k]'hlt).toNat : Nat)] W fun e w' => e = .returned (.int .i64 (dgz (btn s k) : Nat)) ∧ W = w' from by
    rw [Dp s k hlt]; exact Cy _ W (Fi s k))
   have hk1 : (k : Int) < (s.size : Int) := by omega
   have hd := HD.out k hlt
   rw [H7 H36.out hd] at C1
   obtain ⟨d, hde⟩ : ∃ d, dgt (btn s k) = d := ⟨_, rfl⟩
   rw [hde] at C1 hd
   have a1 : ¬ (r : Int) ≤ (d : Int) := by omega
   clear hde hd
   go_wp2_with fail
   refine Sm (C1.out _) ?_
   go_wp2
   go_roundw
   case rel => exact ⟨k + 1, by go_num, by omega, trivial⟩
   case measure => simp [intOf]; omega
  ·have hks : k = s.size := by omega
   subst hks
   clear hlt hk
   go_wp2
   go_loopw [7, 8] (fun av iv wr => ∃ o : Nat, iv = .int .i64 (o : Nat) ∧ o ≤ s.size ∧ Hid (Sl wr wr.heap.size av (wds (pv r (fun i => dgt (btn s i)) o))) ∧ Hid (An (pv r (fun i => dgt (btn s i)) o) = false) ∧ Below w.heap.size w wr) (fun _ iv _ => s.size - (intOf iv).toNat)
   case atStart => exact ⟨0, rfl, Nat.zero_le _, Lh (Sl.nil _ _ _), Lh (Ec (by simp [pv])), Below.refl _ _⟩
   case round =>
    obtain ⟨o, rfl, ho, HS, HL, hbw⟩ := hrel
    obtain ⟨V, hV⟩ : ∃ V, pv r (fun i => dgt (btn s i)) o = V := ⟨_, rfl⟩
    rw [hV] at HS HL
    have HV := Lh hV
    obtain ⟨A0, c0, rfl, hc0, hr0⟩ := HS.out
    obtain ⟨L0, hL0⟩ : ∃ L, (wds V).length = L := ⟨_, rfl⟩
    have hle := Abx HL.out
    rw [hL0] at hc0 hle ⊢
    by_cases hlt : o < s.size
    ·have hd := HD.out o hlt
     have hx1 : (o : Int) < (s.size : Int) := by omega
     have C1 := Lh (fun W => show Cp 108 #[.int .u8 ((s[o]'hlt).toNat : Nat)] W fun e w' => e = .returned (.int .i64 (dgt (btn s o) : Nat)) ∧ W = w' from by
      rw [Dp s o hlt, ← H7 H36.out hd]; exact Cy _ W (Fi s o))
     have hpv : pv r (fun i => dgt (btn s i)) (o + 1) = V * r + dgt (btn s o) := by rw [← hV]; rfl
     have hd36 := Og (btn s o)
     obtain ⟨d, hde⟩ : ∃ d, dgt (btn s o) = d := ⟨_, rfl⟩
     rw [hde] at C1 hpv hd36
     have kd : IntKind.u32.wrap (d : Int) = (d : Int) := IntWalk.u32_in _ (by omega)
     obtain ⟨L1, hL1⟩ : ∃ L, (wds (V * r)).length = L := ⟨_, rfl⟩
     obtain ⟨L2, hL2⟩ : ∃ L, (wds (V * r + d)).length = L := ⟨_, rfl⟩
     have l1 : L1 ≤ 1025 := by
      have h1 := E2 V r
      have h3 : (wds r).length ≤ 1 := Bl (by have := H36.out; omega)
      omega
     have l2 : L2 ≤ 1026 := by
      have h1 := Jl (V * r) d
      have h3 : (wds d).length ≤ 1 := Bl (by omega)
      omega
     have K1 := Lh (fun W g (hb : Below wr.heap.size wr W) (g1 : RW W W.heap.size (some ⟨g, 0, none⟩) [r]) => show Cp 138 #[.slice A0 L0 c0, .slice (some ⟨g, 0, none⟩) 1 1] W (Ji (wds (V * r)) L1 W) from by
      have := Of A0 L0 c0 g r (wds V) L1 W hL0 hle (hr0.step hb) g1 (by rw [Ae]; exact hL1)
      rw [Ae] at this; exact this)
     have K2 := Lh (fun W A2 c2 g (r2 : RW W W.heap.size A2 (wds (V * r))) (g1 : RW W W.heap.size (some ⟨g, 0, none⟩) [d]) => show Cp 137 #[.slice A2 L1 c2, .slice (some ⟨g, 0, none⟩) 1 1] W (Ji (wds (V * r + d)) L2 W) from by
      have := Tf A2 L1 c2 g d (wds (V * r)) L2 W hL1 (by omega) r2 g1 (by rw [Ae]; exact hL2)
      rw [Ae] at this; exact this)
     have HLR := Lh (fun W => Hg W r (by have := H36.out; omega))
     have HLD := Lh (fun W => Hg W d (by omega))
     have HPV := Lh hpv
     have HL2 := Lh hL2
     clear hpv hL2
     clear hV hL0 hle hc0 hr0 hd hde hd36 hL1 l1
     go_wp2
     go_region_held3 (fun w' => True) (trivial) (first | (go_at_call 138; refine (K1.out _ _ (Ad ((Below.refl _ _).alloc (Nat.le_refl _) _) 1) ((HLR.out wr).drewN 1)).mono ?_; rintro e w2 ⟨A2, c2, rfl, ⟨hc2, r2⟩, b2⟩) | (go_at_call 108; refine (C1.out _).mono ?_; rintro e w' ⟨rfl, rfl⟩) | (go_at_call 137; refine (K2.out _ _ _ _ (r2.step ((Below.refl _ _).alloc (Nat.le_refl _) _)) (HLD.out _)).mono ?_; rintro e w3 ⟨A3, c3, rfl, ⟨hc3, r3⟩, b3⟩))
     all_goals
      have B2 : Below w.heap.size w w2 := Aa (Ad (hbw.alloc hbw.size _) 1) b2
      have B3 : Below w.heap.size w w3 := Aa (B2.alloc B2.size _) b3
      clear r2 b2 b3 B2 hc2 K1 K2
      have C5 := Lh (Afn A3 L2 c3 (wds (V * r + d)) w3.heap.size w3 HL2.out hc3 (by omega) r3)
      rw [Ae, ← HPV.out] at C5
      have HSL := Lh (fun (w4 : World) (b4 : Below w3.heap.size w3 w4) => (⟨A3, c3, by rw [HL2.out], by rw [HL2.out]; exact hc3, r3.step b4⟩ : Sl w4 w4.heap.size (.slice A3 L2 c3) (wds (V * r + d))))
      have HB3 := Lh B3
      clear r3 hc3 B3
      cases hl : An (pv r (fun i => dgt (btn s i)) (o + 1))
      ·rw [hl] at C5
       have HLN := Lh hl
       clear hl
       go_wp2_with fail
       refine C5.out.mono ?_
       rintro e w4 ⟨rfl, b4⟩
       have HS4 := Lh (HSL.out w4 b4)
       have HB4 := Lh (Aa HB3.out b4)
       clear b4 C5
       go_wp2
       go_roundw
       case rel => exact ⟨o + 1, by go_num, by omega, Lh (by rw [HPV.out]; exact HS4.out), HLN, HB4.out⟩
       case measure => simp [intOf]; omega
      ·rw [hl] at C5
       have HLN := Lh (Kj (v := sv r s) (My (by have := H2.out; omega) (by omega)) hl)
       clear hl
       go_wp2_with fail
       refine C5.out.mono ?_
       rintro e w4 ⟨rfl, b4⟩
       have HB4 := Lh (Aa HB3.out b4)
       clear b4 C5
       go_wp2
       go_ret2
       exact NatPost.long HLN.out HB4.out
    ·have hos : o = s.size := by omega
     have HF := Lh (show NatPost (sv r s) w (.returned (.tuple #[.slice A0 L0 c0, .int .i64 0])) wr from by
      have e : V = sv r s := by rw [← HV.out, hos]; rfl
      rw [← e]
      exact NatPost.ok HL.out hL0.symm hc0 hr0 hbw)
     have b0 : ¬ (o : Int) < (s.size : Int) := by omega
     clear hos hlt hc0 hr0 hL0 hle hV
     go_wp2
     go_ret2
     exact HF.out
end
section
def Bw (c : Nat) : Bool := decide (48 ≤ c) && decide (c ≤ 57)
theorem Bs {c : Nat} : Bw c = true ↔ 48 ≤ c ∧ c ≤ 57 := by unfold Bw; simp
theorem Wh {c : Nat} : Bw c = false ↔ ¬ (48 ≤ c ∧ c ≤ 57) := by unfold Bw; simp
theorem In {c : Nat} (h : Bw c = true) : dgt c = c - 48 ∧ dgt c < 10 := by
 have := Bs.1 h
 unfold dgt
 rw [if_pos this]
 exact ⟨rfl, by omega⟩
theorem Aao {c : Nat} : dgt c < 10 ↔ Bw c = true := by
 constructor
 ·intro h
  unfold dgt at h
  by_cases h1 : 48 ≤ c ∧ c ≤ 57
  ·exact Bs.2 h1
  ·rw [if_neg h1] at h
   split at h
   ·omega
   ·split at h <;> omega
 ·intro h; exact (In h).2
def Eh (l : List Nat) : Bool := l.head? == some 45
def Bj (l : List Nat) : List Nat := if l.head? = some 45 ∨ l.head? = some 43 then l.tail else l
def Ag (l : List Nat) : List Nat := l.takeWhile Bw
def Aj (l : List Nat) : List Nat := l.dropWhile Bw
theorem Mz (l : List Nat) : Ag l ++ Aj l = l := List.takeWhile_append_dropWhile
theorem Cg : ∀ (l : List Nat), ∀ c ∈ Ag l, Bw c = true := by
 intro l
 induction l with
 | nil => intro c hc; simp [Ag] at hc
 | cons d r ih =>
  intro c hc
  unfold Ag at hc ih
  rw [List.takeWhile_cons] at hc
  cases hd : Bw d
  ·rw [hd] at hc; simp at hc
  ·rw [hd] at hc
   simp only [if_true] at hc
   rcases List.mem_cons.1 hc with rfl | h
   ·exact hd
   ·exact ih c h
theorem Cs (l : List Nat) : (Ag l).length + (Aj l).length = l.length := by
 have := congrArg List.length (Mz l)
 rw [List.length_append] at this
 exact this
def Qi (n c : Nat) : Nat := if n < 1099511627776 then n * 10 + (c - 48) else n
def amt (f : List Nat) : Nat := f.foldl Qi 0
theorem F6 (f : List Nat) (c : Nat) : amt (f ++ [c]) = Qi (amt f) c := by unfold amt; rw [List.foldl_append]; rfl
theorem Hf : ∀ (f : List Nat), (∀ c ∈ f, Bw c = true) → amt f < 10995116277760 := by
 intro f hf
 have main : ∀ (l : List Nat) (a : Nat), a < 10995116277760 → (∀ c ∈ l, Bw c = true) → l.foldl Qi a < 10995116277760 := by
  intro l
  induction l with
  | nil => intro a h _; exact h
  | cons c r ih =>
   intro a h hl
   refine ih (Qi a c) ?_ (fun d hd => hl d (by simp [hd]))
   have := Bs.1 (hl c (by simp))
   unfold Qi
   split <;> omega
 exact main f 0 (by omega) hf
def Fu (l : List Nat) : Bool := (l.head? == some 101 || l.head? == some 69) && !(Ag (Bj l.tail)).isEmpty
def Kz (l : List Nat) : Int := if Eh l.tail = true then -(amt (Ag (Bj l.tail)) : Int) else (amt (Ag (Bj l.tail)) : Int)
def Ql (l : List Nat) : List Nat := Aj (Bj l.tail)
def exV (l : List Nat) : Int := if Fu l = true then Kz l else 0
def exR (l : List Nat) : List Nat := if Fu l = true then Ql l else l
theorem Als (l : List Nat) : -10995116277760 < Kz l ∧ Kz l < 10995116277760 := by
 have := Hf (Ag (Bj l.tail)) (Cg _)
 unfold Kz
 split <;> omega
theorem Zi (l : List Nat) : -10995116277760 < exV l ∧ exV l < 10995116277760 := by
 have := Als l
 unfold exV
 split <;> omega
def Ke (t : List Nat) : Bool := t.head? == some 46
def dW (l : List Nat) : List Nat := Ag l
def dF (l : List Nat) : List Nat := if Ke (Aj l) = true then Ag (Aj l).tail else []
def dB (l : List Nat) : Bool := !((dW l).isEmpty && (dF l).isEmpty)
def dT (l : List Nat) : List Nat := if Ke (Aj l) = true then Aj (Aj l).tail else Aj l
def dX (l : List Nat) : Int := exV (dT l)
def dR (l : List Nat) : List Nat := exR (dT l)
def num (r : Nat) (f : List Nat) : Nat := pv r (fun i => dgt (f.getD i 0)) f.length
def dV (l : List Nat) : Nat := Bp (num 10 (dW l ++ dF l)) (dX l - (dF l).length)
/-! ### Numbers of digits -/
theorem Aa6 (r : Nat) : num r [] = 0 := rfl
theorem Ew (r : Nat) (f g : List Nat) : num r (f ++ g) = num r f * r ^ g.length + num r g := by
 unfold num
 rw [List.length_append, Zb]
 congr 1
 ·congr 1
  refine H9 (fun i hi => ?_)
  rw [List.getD_eq_getElem?_getD, List.getElem?_append_left hi, ← List.getD_eq_getElem?_getD]
 ·refine H9 (fun i hi => ?_)
  rw [List.getD_eq_getElem?_getD, List.getElem?_append_right (by omega), Nat.add_sub_cancel_left, ← List.getD_eq_getElem?_getD]
theorem Mw (r c : Nat) : num r [c] = dgt c := by
 unfold num
 show pv r _ 1 = _
 simp [pv]
theorem E6 (r c : Nat) (f : List Nat) : num r (c :: f) = dgt c * r ^ f.length + num r f := by
 rw [show c :: f = [c] ++ f from rfl, Ew, Mw]
theorem Zm {r : Nat} {f : List Nat} (h : ∀ c ∈ f, dgt c < r) : num r f < r ^ f.length := by
 unfold num
 refine Abo (fun i hi => ?_)
 rw [List.getD_eq_getElem?_getD, List.getElem?_eq_getElem hi]
 exact h _ (List.getElem_mem hi)
theorem Agr : dgt 48 = 0 := by decide
theorem Lg (r : Nat) : ∀ k : Nat, num r (List.replicate k 48) = 0
 | 0 => rfl
 | k + 1 => by rw [List.replicate_succ, E6, Agr, Lg r k]; simp
theorem Cu (r : Nat) : ∀ f : List Nat, num r (f.dropWhile (· == 48)) = num r f
 | [] => rfl
 | c :: f => by
  by_cases h : c = 48
  ·subst h
   rw [List.dropWhile_cons_of_pos (by simp), Cu r f, E6, Agr]
   simp
  ·rw [List.dropWhile_cons_of_neg (by simpa using h)]
theorem Ch (f : List Nat) : (f.dropWhile (· == 48)).head? ≠ some 48 := by
 intro h
 have := List.head?_dropWhile_not (p := (· == 48)) f
 rw [h] at this
 simp at this
theorem Ah6 {f : List Nat} {c : Nat} (hd : ∀ x ∈ c :: f, Bw x = true) (hc : c ≠ 48) : 10 ^ f.length ≤ num 10 (c :: f) := by
 have h1 := In (hd c (by simp))
 have h2 := Bs.1 (hd c (by simp))
 rw [E6]
 have h3 : 1 * 10 ^ f.length ≤ dgt c * 10 ^ f.length := Nat.mul_le_mul_right _ (by omega)
 omega
theorem Wg {f : List Nat} (hd : ∀ x ∈ f, Bw x = true) : num 10 f = 0 ↔ f.dropWhile (· == 48) = [] := by
 rw [← Cu 10 f]
 constructor
 ·intro h
  cases hf : f.dropWhile (· == 48) with
  | nil => rfl
  | cons c g =>
   exfalso
   rw [hf] at h
   have h1 : c ≠ 48 := by
    have := Ch f
    rw [hf] at this
    intro e
    exact this (by rw [e]; rfl)
   have h2 := Ah6 (f := g) (c := c) (fun x hx => hd x (by
    have : x ∈ f.dropWhile (· == 48) := by rw [hf]; exact hx
    exact (List.dropWhile_sublist _).subset this)) h1
   have := Au g.length
   omega
 ·intro h; rw [h]; rfl
end
section
def ldz (f : List Nat) : List Nat := f.dropWhile (· == 48)
def trz (f : List Nat) : List Nat := (f.reverse.dropWhile (· == 48)).reverse
theorem E3 {f : List Nat} {c : Nat} (h : c ∈ ldz f) : c ∈ f := (List.dropWhile_sublist _).subset h
theorem Abj {f : List Nat} {c : Nat} (h : c ∈ trz f) : c ∈ f := by
 unfold trz at h
 rw [List.mem_reverse] at h
 exact List.mem_reverse.1 ((List.dropWhile_sublist _).subset h)
theorem Dd : ∀ g : List Nat, ∃ z, g = List.replicate z 48 ++ g.dropWhile (· == 48)
 | [] => ⟨0, rfl⟩
 | c :: g => by
  by_cases h : c = 48
  ·subst h
   obtain ⟨z, hz⟩ := Dd g
   refine ⟨z + 1, ?_⟩
   rw [List.dropWhile_cons_of_pos (by simp), List.replicate_succ, List.cons_append, ← hz]
  ·exact ⟨0, by rw [List.dropWhile_cons_of_neg (by simpa using h)]; rfl⟩
theorem K6 (f : List Nat) : ∃ z, f = trz f ++ List.replicate z 48 := by
 obtain ⟨z, hz⟩ := Dd f.reverse
 refine ⟨z, ?_⟩
 have h := congrArg List.reverse hz
 rw [List.reverse_reverse, List.reverse_append, List.reverse_replicate] at h
 exact h
theorem Ah5 (f : List Nat) : (trz f).getLast? ≠ some 48 := by
 unfold trz
 rw [List.getLast?_reverse]
 exact Ch f.reverse
theorem Ab3 (f : List Nat) : num 10 f = num 10 (trz f) * 10 ^ (f.length - (trz f).length) := by
 obtain ⟨z, hz⟩ := K6 f
 have hl : f.length - (trz f).length = z := by
  have := congrArg List.length hz
  rw [List.length_append, List.length_replicate] at this
  omega
 have h2 := congrArg (num 10) hz
 rw [Ew, Lg, List.length_replicate, Nat.add_zero] at h2
 rw [hl, h2]
theorem Tb (f : List Nat) : (trz f).length ≤ f.length := by
 obtain ⟨z, hz⟩ := K6 f
 have := congrArg List.length hz
 rw [List.length_append] at this
 omega
theorem Vf {f : List Nat} (hd : ∀ x ∈ f, Bw x = true) {c : Nat} (hc : c ∈ f) (h : c ≠ 48) : 0 < num 10 f := by
 rcases Nat.eq_zero_or_pos (num 10 f) with h0 | h0
 ·exfalso
  have h1 := (Wg hd).1 h0
  obtain ⟨z, hz⟩ := Dd f
  rw [h1, List.append_nil] at hz
  rw [hz] at hc
  exact h (List.eq_of_mem_replicate hc)
 ·exact h0
theorem Hj {g : List Nat} (hd : ∀ x ∈ g, Bw x = true) (h0 : g ≠ []) (hh : g.head? ≠ some 48) : 10 ^ (g.length - 1) ≤ num 10 g := by
 cases g with
 | nil => exact absurd rfl h0
 | cons c r =>
  have := Ah6 (f := r) (c := c) hd (fun e => hh (by rw [e]; rfl))
  simpa using this
theorem Hn {g : List Nat} (hd : ∀ x ∈ g, Bw x = true) : num 10 g < 10 ^ g.length := Zm (fun c hc => (In (hd c hc)).2)
theorem Rr {g : List Nat} {k : Nat} (hk : 0 < k) : (g.take k).head? = g.head? := by
 cases g with
 | nil => simp
 | cons c r =>
  obtain ⟨j, rfl⟩ : ∃ j, k = j + 1 := ⟨k - 1, by omega⟩
  rw [List.take_succ_cons]
  rfl
theorem Ann : dgt 49 = 1 := by decide
theorem Yj {g : List Nat} {k : Nat} {e : Int} (hd : ∀ x ∈ g, Bw x = true) (hh : g.head? ≠ some 48) (hk : 769 ≤ k) (hl : k < g.length) (hpt : (g.length : Int) + e ≤ 768) (hc : ∃ c ∈ g.drop k, c ≠ 48) :
  Bp (num 10 g) e = Bp (num 10 (g.take k ++ [49])) (e + (g.length - k : Nat) - 1) := by
 obtain ⟨p, hp⟩ : ∃ p, g.take k = p := ⟨_, rfl⟩
 obtain ⟨q, hq⟩ : ∃ q, g.drop k = q := ⟨_, rfl⟩
 have hg : g = p ++ q := by rw [← hp, ← hq, List.take_append_drop]
 have lp : p.length = k := by rw [← hp, List.length_take]; omega
 have lq : q.length = g.length - k := by rw [← hq, List.length_drop]
 have dp : ∀ x ∈ p, Bw x = true := fun x hx => hd x (by rw [hg]; exact List.mem_append_left _ hx)
 have dq : ∀ x ∈ q, Bw x = true := fun x hx => hd x (by rw [hg]; exact List.mem_append_right _ hx)
 have hhp : p.head? ≠ some 48 := by rw [← hp, Rr (by omega)]; exact hh
 have p0 : p ≠ [] := fun e => by rw [e] at lp; simp at lp; omega
 rw [hq] at hc
 obtain ⟨c, hc1, hc2⟩ := hc
 have q0 := Vf dq hc1 hc2
 have h1 := Hj dp p0 hhp
 rw [lp] at h1
 have h2 := Hn dp
 rw [lp] at h2
 have h3 := Hn dq
 rw [hp, Ew, Mw, Ann, ← lq]
 have h4 := Aj8 (p := num 10 p) (r := q.length) (q := num 10 q) (k := k) (e := e) hk h1 h2 h3 q0 (by rw [hg, List.length_append, lp] at hpt; omega)
 rw [← Ew, ← hg] at h4
 rw [h4]
 rfl
/-! ### The program's way -/
theorem Adl {f : List Nat} {e : Int} (h : trz (ldz f) = []) : Bp (num 10 f) e = 0 := by
 have h1 := Ab3 (ldz f)
 rw [h, Aa6, Nat.zero_mul] at h1
 have h2 : num 10 (ldz f) = num 10 f := Cu 10 f
 rw [← h2, h1]
 exact R7 e
theorem Aiy {f : List Nat} {e : Int} (hd : ∀ x ∈ f, Bw x = true) (h : ((ldz f).length : Int) + e < -323) : Bp (num 10 f) e = 0 := by
 have h2 : num 10 (ldz f) = num 10 f := Cu 10 f
 rw [← h2]
 exact Ri (Hn (fun x hx => hd x (E3 hx))) (by omega)
theorem Afd {f : List Nat} {e : Int} (hd : ∀ x ∈ f, Bw x = true) (h0 : trz (ldz f) ≠ []) (h : 309 < ((ldz f).length : Int) + e) : Bp (num 10 f) e = 9218868437227405312 := by
 have h2 : num 10 (ldz f) = num 10 f := Cu 10 f
 have h3 : ldz f ≠ [] := fun e => h0 (by rw [e]; rfl)
 have h4 : 0 < (ldz f).length := List.length_pos_iff.2 h3
 rw [← h2]
 exact R9 (Hj (fun x hx => hd x (E3 hx)) h3 (Ch f)) (by omega)
theorem Nj {f : List Nat} (e : Int) : Bp (num 10 f) e = Bp (num 10 (trz (ldz f))) ((ldz f).length + e - (trz (ldz f)).length) := by
 have h2 : num 10 (ldz f) = num 10 f := Cu 10 f
 have h3 := Tb (ldz f)
 rw [← h2, Ab3 (ldz f), D0]
 exact congrArg (Bp _) (by omega)
theorem Ol {f : List Nat} (h : f.head? ≠ some 48) : (trz f).head? ≠ some 48 := by
 obtain ⟨z, hz⟩ := K6 f
 cases ht : trz f with
 | nil => simp
 | cons c r =>
  rw [ht] at hz
  rw [hz] at h
  exact h
theorem Adf {f : List Nat} {e : Int} (hd : ∀ x ∈ f, Bw x = true) (hl : 800 < (trz (ldz f)).length) (h : ((ldz f).length : Int) + e ≤ 309) : Bp (num 10 f) e = Bp (num 10 ((trz (ldz f)).take 800 ++ [49])) ((ldz f).length + e - 801) := by
 rw [Nj]
 have h3 := Tb (ldz f)
 have hdh : ∀ x ∈ trz (ldz f), Bw x = true := fun x hx => hd x (E3 (Abj hx))
 have key := Yj (g := trz (ldz f)) (k := 800) (e := (ldz f).length + e - (trz (ldz f)).length) hdh (Ol (Ch f)) (by omega) hl (by omega) ?_
 ·rw [key]
  exact congrArg (Bp _) (by omega)
 ·have hne : trz (ldz f) ≠ [] := fun e => by rw [e] at hl; simp at hl
  obtain ⟨c, hc⟩ : ∃ c, (trz (ldz f)).getLast? = some c := ⟨_, List.getLast?_eq_some_getLast hne⟩
  refine ⟨c, ?_, fun e => Ah5 (ldz f) (by rw [← e]; exact hc)⟩
  have h5 : ((trz (ldz f)).drop 800).getLast? = some c := by
   rw [List.getLast?_drop, if_neg (by omega)]
   exact hc
  exact List.mem_of_getLast? h5
/-! ### The reference's way -/
theorem Acl {f : List Nat} {e : Int} (hd : ∀ x ∈ f, Bw x = true) (h0 : ldz f ≠ []) (h : 400 < ((ldz f).length : Int) + e) : Bp (num 10 f) e = 9218868437227405312 := by
 have h2 : num 10 (ldz f) = num 10 f := Cu 10 f
 have h4 : 0 < (ldz f).length := List.length_pos_iff.2 h0
 rw [← h2]
 exact R9 (Hj (fun x hx => hd x (E3 hx)) h0 (Ch f)) (by omega)
theorem Adn {f : List Nat} {e : Int} (hd : ∀ x ∈ f, Bw x = true) (hl : 820 < (ldz f).length) (h : ((ldz f).length : Int) + e ≤ 400) (hc : ∃ c ∈ (ldz f).drop 810, c ≠ 48) : Bp (num 10 f) e = Bp (num 10 ((ldz f).take 810 ++ [49])) (e + ((ldz f).length - 810 : Nat) - 1) := by
 have h2 : num 10 (ldz f) = num 10 f := Cu 10 f
 rw [← h2]
 exact Yj (fun x hx => hd x (E3 hx)) (Ch f) (by omega) (by omega) (by omega) hc
theorem Ads {f : List Nat} {e : Int} (hc : ∀ c ∈ (ldz f).drop 810, c = 48) : Bp (num 10 f) e = Bp (num 10 ((ldz f).take 810)) (e + ((ldz f).length - 810 : Nat)) := by
 have h2 : num 10 (ldz f) = num 10 f := Cu 10 f
 rw [← h2, ← D0]
 have h3 : num 10 (ldz f) = num 10 ((ldz f).take 810 ++ (ldz f).drop 810) := by rw [List.take_append_drop]
 have h4 : (ldz f).drop 810 = List.replicate ((ldz f).length - 810) 48 := by
  rw [← List.length_drop]
  exact List.eq_replicate_of_mem hc
 rw [h3, Ew, h4, Lg, List.length_replicate, Nat.add_zero]
end
end Go.Proofs.YtmakhfekiieneaaGreatDoor
