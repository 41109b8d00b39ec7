/-
  The program's tests is, op, accessor, each; every. The program's tests first, last, row.
-/
import Derived.Test.YtfpmhahjemdodaaGreatDoorMqag
import Derived.Deep.DeepCutAuto
import Derived.BigQuiet
namespace Go.Proofs.YtfpmhahjemdodaaGreatDoor
open Go.RowKit Go.Shelf
attribute [local go_sem] stFl hmf
theorem cell_push {W : World} (X : Obj) {a : Addr} {v : Value} (h : W.cell? a = some v) : (W.alloc X).cell? a = some v := cell_kept h (b1 X)
set_option maxRecDepth 100000 in
set_option maxHeartbeats 1000000 in
theorem is1_walk (d : Nd) (A : Option Addr) (k c : Nat) (ks : List (Int)) (p b c2 : Nat) (W : World) (hl : ks.length ≤ 100) (h1 : W.cell? ⟨p, 0, none⟩ = some (.slice (some ⟨b, 0, none⟩) ks.length c2)) (hc : ∀ i k, ks[i]? = some k → W.cell? ⟨b, i, none⟩ = some (.int .i64 k)) :
    Calls Tryz.prog 146 #[nodA d A k c, .pointer (some ⟨p, 0, none⟩)] W fun e w' => e = .returned (.bool (ks.any fun k => d.k == k)) ∧ Below W.heap.size W w' := by
  have l1 := cell_lt h1
  have HB := Lib.hid (b1 (w := W))
  have C1 := Lib.hid (fun X => contains_int ks b c2 d.k (W.alloc X) hl (fun i k hk => cell_push X (hc i k hk)))
  obtain ⟨r, hr⟩ : ∃ r, (ks.any fun k => d.k == k) = r := ⟨_, rfl⟩
  rw [hr]
  have C1 : Hid (∀ X, Calls Tryz.prog 147 #[.slice (some ⟨b, 0, none⟩) ks.length c2, .int .i64 d.k] (W.alloc X) fun e w' => e = .returned (.bool r) ∧ W.alloc X = w') := Lib.hid (fun X => by have := C1.out X; rw [hr] at this; exact this)
  clear hr hc hl
  unfold nodA
  go_enter Tryz.func146, Tryz.ntmps146
  go_wp2_with fail
  refine (C1.out _).mono ?_
  rintro e w2 ⟨rfl, rfl⟩
  go_wp2
  go_ret
  exact ⟨rfl, HB.out _⟩
set_option maxRecDepth 100000 in
set_option maxHeartbeats 1000000 in
theorem ais_any {nb : Nat} (ks : List (Int)) (b c : Nat) (W : World) (hn : nb ≤ W.heap.size) (hnb : nb ≤ b) (hl : ks.length ≤ 100) (hc : ∀ i k, ks[i]? = some k → W.cell? ⟨b, i, none⟩ = some (.int .i64 k)) :
    Calls Tryz.prog 93 #[.slice (some ⟨b, 0, none⟩) ks.length c] W fun e w' => ∃ v, e = .returned v ∧ Tst nb w' v (tIs ks) ∧ Below W.heap.size W w' := by
  have HC := Lib.hid hc
  clear hc
  go_enter Tryz.func93, Tryz.ntmps93
  go_wp2
  go_ret
  refine ⟨_, rfl, ⟨146, _, rfl, enters_of Tryz.func146 (by kernel_rfl) rfl, fun W2 x A c' pb hW hA hF => ?_⟩, b1 _⟩
  have z : (W.alloc (.cells #[.slice (some ⟨b, 0, none⟩) ks.length c] 94)).heap.size = W.heap.size + 1 := by simp
  have c1 : W2.cell? ⟨W.heap.size, 0, none⟩ = some (.slice (some ⟨b, 0, none⟩) ks.length c) := (World.cell?_of_block (hW.block W.heap.size hn (by rw [z]; omega))).trans (by simp)
  have := is1_walk x.datum A x.kids.length c' ks _ b c W2 hl c1 (fun i k hk => cell_abv (cell_push _ (HC.out i k hk)) hnb hW)
  exact this
set_option maxRecDepth 100000 in
set_option maxHeartbeats 1000000 in
theorem op1_walk (d : Nd) (A : Option Addr) (k c : Nat) (ks : List (ByteArray)) (p b c2 : Nat) (W : World) (hl : ks.length ≤ 100) (h1 : W.cell? ⟨p, 0, none⟩ = some (.slice (some ⟨b, 0, none⟩) ks.length c2)) (hc : ∀ i k, ks[i]? = some k → W.cell? ⟨b, i, none⟩ = some (.string k)) :
    Calls Tryz.prog 153 #[nodA d A k c, .pointer (some ⟨p, 0, none⟩)] W fun e w' => e = .returned (.bool (ks.any fun k => d.op.toList == k.toList)) ∧ Below W.heap.size W w' := by
  have l1 := cell_lt h1
  have HB := Lib.hid (b1 (w := W))
  have C1 := Lib.hid (fun X => contains_str ks b c2 d.op (W.alloc X) hl (fun i k hk => cell_push X (hc i k hk)))
  obtain ⟨r, hr⟩ : ∃ r, (ks.any fun k => d.op.toList == k.toList) = r := ⟨_, rfl⟩
  rw [hr]
  have C1 : Hid (∀ X, Calls Tryz.prog 154 #[.slice (some ⟨b, 0, none⟩) ks.length c2, .string d.op] (W.alloc X) fun e w' => e = .returned (.bool r) ∧ W.alloc X = w') := Lib.hid (fun X => by have := C1.out X; rw [hr] at this; exact this)
  clear hr hc hl
  unfold nodA
  go_enter Tryz.func153, Tryz.ntmps153
  go_wp2_with fail
  refine (C1.out _).mono ?_
  rintro e w2 ⟨rfl, rfl⟩
  go_wp2
  go_ret
  exact ⟨rfl, HB.out _⟩
set_option maxRecDepth 100000 in
set_option maxHeartbeats 1000000 in
theorem aop_any {nb : Nat} (ks : List (ByteArray)) (b c : Nat) (W : World) (hn : nb ≤ W.heap.size) (hnb : nb ≤ b) (hl : ks.length ≤ 100) (hc : ∀ i k, ks[i]? = some k → W.cell? ⟨b, i, none⟩ = some (.string k)) :
    Calls Tryz.prog 100 #[.slice (some ⟨b, 0, none⟩) ks.length c] W fun e w' => ∃ v, e = .returned v ∧ Tst nb w' v (tOp (ks.map (·.toList))) ∧ Below W.heap.size W w' := by
  have HC := Lib.hid hc
  clear hc
  go_enter Tryz.func100, Tryz.ntmps100
  go_wp2
  go_ret
  refine ⟨_, rfl, ⟨153, _, rfl, enters_of Tryz.func153 (by kernel_rfl) rfl, fun W2 x A c' pb hW hA hF => ?_⟩, b1 _⟩
  have z : (W.alloc (.cells #[.slice (some ⟨b, 0, none⟩) ks.length c] 97)).heap.size = W.heap.size + 1 := by simp
  have c1 : W2.cell? ⟨W.heap.size, 0, none⟩ = some (.slice (some ⟨b, 0, none⟩) ks.length c) := (World.cell?_of_block (hW.block W.heap.size hn (by rw [z]; omega))).trans (by simp)
  have := op1_walk x.datum A x.kids.length c' ks _ b c W2 hl c1 (fun i k hk => cell_abv (cell_push _ (HC.out i k hk)) hnb hW)
  refine this.mono fun e w' ⟨h1, h2⟩ => ⟨h1.trans ?_, h2⟩
  unfold tOp
  rw [List.any_map]
  rfl
set_option maxRecDepth 100000 in
set_option maxHeartbeats 1000000 in
theorem accessor1_walk (d : Nd) (A : Option Addr) (k c : Nat) (n : Nat) (p : Nat) (W : World) (hn : n ≤ 100) (h1 : W.cell? ⟨p, 0, none⟩ = some (.int .i64 n)) :
    Calls Tryz.prog 149 #[nodA d A k c, .pointer (some ⟨p, 0, none⟩)] W fun e w' => e = .returned (.bool (d.k == 13 && (d.st.toList.isEmpty && (k : Int) == n + 1))) ∧ Below W.heap.size W w' := by
  have l1 := cell_lt h1
  have HB := Lib.hid (b1 (w := W))
  obtain ⟨B, hB⟩ : ∃ b, (d.k == 13) = b := ⟨_, rfl⟩
  obtain ⟨D, hD⟩ : ∃ b, d.st.toList.isEmpty = b := ⟨_, rfl⟩
  obtain ⟨E, hE⟩ : ∃ b, ((k : Int) == n + 1) = b := ⟨_, rfl⟩
  rw [hB, hD, hE]
  unfold nodA
  cases B
  · clear hD hE
    go_enter Tryz.func149, Tryz.ntmps149
    go_wp2
    go_ret
    exact ⟨by simp, HB.out _⟩
  · cases D
    · clear hE
      go_enter Tryz.func149, Tryz.ntmps149
      go_wp2
      go_ret
      exact ⟨by simp, HB.out _⟩
    · skip
      go_enter Tryz.func149, Tryz.ntmps149
      go_wp2
      go_ret
      exact ⟨by first | rfl | simp [*], HB.out _⟩
set_option maxRecDepth 100000 in
set_option maxHeartbeats 1000000 in
theorem aaccessor_any {nb : Nat} (n : Nat) (W : World) (hn : nb ≤ W.heap.size) (hm : n ≤ 100) : Calls Tryz.prog 95 #[.int .i64 n] W fun e w' => ∃ v, e = .returned v ∧ Tst nb w' v (tAcc n) ∧ Below W.heap.size W w' := by
  go_enter Tryz.func95, Tryz.ntmps95
  go_wp2
  go_ret
  refine ⟨_, rfl, ⟨149, _, rfl, enters_of Tryz.func149 (by kernel_rfl) rfl, fun W2 x A c' pb hW hA hF => ?_⟩, b1 _⟩
  have z : (W.alloc (.cells #[.int .i64 (n : Nat)] 3)).heap.size = W.heap.size + 1 := by simp
  have c1 : W2.cell? ⟨W.heap.size, 0, none⟩ = some (.int .i64 (n : Nat)) := (World.cell?_of_block (hW.block W.heap.size hn (by rw [z]; omega))).trans (by simp)
  exact accessor1_walk x.datum A x.kids.length c' n _ W2 hm c1
set_option maxRecDepth 100000 in
set_option maxHeartbeats 1000000 in
theorem indexf_any (l : List Tn) (A : Option Addr) (c f : Nat) (cf : Array Value) (q : TT) (pb : Nat → Prop) (W : World) (he : ∀ args W, (callFunc f args).run Tryz.prog W = .ok (.enter f args) W) (hA : AtS pb W l (.slice A l.length c)) (hF : ∀ x ∈ l, Fit x)
    (hC : ∀ (W' : World) (t : Tn) (A : Option Addr) (c : Nat) (pb : Nat → Prop), Below W.heap.size W W' → AtS pb W' t.kids (.slice A t.kids.length c) → Fit t → Calls Tryz.prog f (#[nodA t.datum A t.kids.length c] ++ cf) W' fun e w' => e = .returned (.bool (q t)) ∧ Below W'.heap.size W' w') :
    Calls Tryz.prog 190 #[.slice A l.length c, .func (.func f) #[] cf] W fun e w' => ∃ r : Int, e = .returned (.int .i64 r) ∧ Hid (decide (0 ≤ r) = l.any q) ∧ Below W.heap.size W w' := by
  have HA := Lib.hid hA
  have HC := Lib.hid hC
  have HF := Lib.hid hF
  obtain ⟨_, _, e1, hmx, hnn⟩ := hA
  cases e1
  clear hC hF hnn
  have B0 := Lib.hid (Below.refl W.heap.size W)
  go_enter Tryz.func190, Tryz.ntmps190
  go_wp2
  go_loopw [8] (fun i wr => ∃ i0 : Nat, i = .int .i64 i0 ∧ i0 ≤ l.length ∧ Hid ((l.take i0).any q = false) ∧ Hid (Below W.heap.size W wr)) (fun i _ => l.length - (intOf i).toNat)
  case atStart => exact ⟨0, rfl, Nat.zero_le _, Lib.hid (by simp), B0⟩
  case round =>
    obtain ⟨i0, rfl, hi0, hQ, hB⟩ := hrel
    by_cases hi : i0 < l.length
    · obtain ⟨x, hx⟩ : ∃ x, l[i0]? = some x := ⟨_, List.getElem?_eq_getElem hi⟩
      obtain ⟨b, o, s6, e1, -, -, hr, hk6⟩ := (HA.out.keep (W' := wr) (fun b _ hl => hB.out.block b hl)).nth hx
      obtain ⟨A6, c6, rfl, hm6, hn6⟩ := hk6
      cases e1
      have k0 : wr.cell? ⟨b, o + i0 * 7, none⟩ = some (.int .i64 x.datum.k) := hr 0 _ rfl
      have k1 := hr 1 _ rfl
      have k2 := hr 2 _ rfl
      have k3 := hr 3 _ rfl
      have k4 := hr 4 _ rfl
      have k5 := hr 5 _ rfl
      have k6 := hr 6 _ rfl
      have hwj := wrap_succ (j := i0) (by unfold maxLen at hmx ⊢; omega)
      have C1 := Lib.hid (HC.out wr x A6 c6 pb hB.out ⟨A6, c6, rfl, hm6, hn6⟩ (HF.out x (List.mem_of_getElem? hx)))
      have HX := Lib.hid hx
      clear hr hn6 hx
      unfold nodA at C1
      obtain ⟨B, hBq⟩ : ∃ b, q x = b := ⟨_, rfl⟩
      have HQ := Lib.hid hBq
      rw [hBq] at C1
      clear hBq
      cases B
      · go_wp2_with fail
        refine C1.out.mono ?_
        rintro e w2 ⟨rfl, b2⟩
        have hb2 := Lib.hid (hB.out.trans (b2.mono hB.out.size))
        clear b2 k0 k1 k2 k3 k4 k5 k6
        go_wp2
        refine ⟨⟨i0 + 1, congrArg _ hwj, hi, Lib.hid ?_, hb2⟩, ?_⟩
        · rw [List.take_add_one, HX.out, List.any_append, hQ.out]
          show (false || (q x || false)) = false
          rw [HQ.out]
          rfl
        · rw [hwj]
          exact meas_dec hi
      · go_wp2_with fail
        refine C1.out.mono ?_
        rintro e w2 ⟨rfl, b2⟩
        have hb2 := Lib.hid (hB.out.trans (b2.mono hB.out.size))
        clear b2 k0 k1 k2 k3 k4 k5 k6
        go_wp2
        go_ret
        refine ⟨_, rfl, Lib.hid ?_, hb2.out⟩
        rw [decide_eq_true (by omega), eq_comm, List.any_eq_true]
        exact ⟨x, List.mem_of_getElem? HX.out, HQ.out⟩
    · have hi1 : i0 = l.length := by omega
      go_wp2
      go_ret
      refine ⟨_, rfl, Lib.hid ?_, hB.out⟩
      have hA' := hQ.out
      rw [hi1, List.take_length] at hA'
      rw [hA']
      rfl
set_option maxRecDepth 100000 in
set_option maxHeartbeats 1000000 in
theorem containsf_any (l : List Tn) (A : Option Addr) (c f : Nat) (cf : Array Value) (q : TT) (pb : Nat → Prop) (W : World) (he : ∀ args W, (callFunc f args).run Tryz.prog W = .ok (.enter f args) W) (hA : AtS pb W l (.slice A l.length c)) (hF : ∀ x ∈ l, Fit x)
    (hC : ∀ (W' : World) (t : Tn) (A : Option Addr) (c : Nat) (pb : Nat → Prop), Below W.heap.size W W' → AtS pb W' t.kids (.slice A t.kids.length c) → Fit t → Calls Tryz.prog f (#[nodA t.datum A t.kids.length c] ++ cf) W' fun e w' => e = .returned (.bool (q t)) ∧ Below W'.heap.size W' w') :
    Calls Tryz.prog 176 #[.slice A l.length c, .func (.func f) #[] cf] W fun e w' => e = .returned (.bool (l.any q)) ∧ Below W.heap.size W w' := by
  have C1 := Lib.hid (indexf_any l A c f cf q pb W he hA hF hC)
  clear hA hF hC he
  go_enter Tryz.func176, Tryz.ntmps176
  go_wp2_with fail
  refine C1.out.mono ?_
  rintro e w' ⟨r, rfl, hr, hb⟩
  go_wp2
  go_ret
  exact ⟨by rw [← hr.out]; rfl, hb⟩
theorem all_not (l : List Tn) (p : TT) : (!l.any (tNot p)) = l.all p := by
  induction l with
  | nil => rfl
  | cons x l ih =>
    rw [List.any_cons, List.all_cons, Bool.not_or, ih]
    unfold tNot
    rw [Bool.not_not]
set_option maxRecDepth 100000 in
set_option maxHeartbeats 1000000 in
theorem aevery_any {nb : Nat} (l : List Tn) (A : Option Addr) (c : Nat) (v : Value) (p : TT) (pb : Nat → Prop) (W : World) (hn : nb ≤ W.heap.size) (hv : Tst nb W v p) (hA : AtS pb W l (.slice A l.length c)) (hF : ∀ x ∈ l, Fit x) :
    Calls Tryz.prog 140 #[.slice A l.length c, v] W fun e w' => e = .returned (.bool (l.all p)) ∧ Below W.heap.size W w' := by
  have C1 := Lib.hid (anot_any hn hv)
  have HA := Lib.hid hA
  have HF := Lib.hid hF
  clear hv hA hF
  rw [← all_not]
  go_enter Tryz.func140, Tryz.ntmps140
  go_wp2_with fail
  refine C1.out.mono ?_
  rintro e w2 ⟨v2, rfl, hT, hb⟩
  obtain ⟨f, cf, rfl, he, hf⟩ := hT
  have C2 := Lib.hid (containsf_any l A c f cf (tNot p) pb w2 he (HA.out.keep (fun b _ hl => hb.block b hl)) HF.out (fun W' t A c pb hb => hf W' t A c pb (Abv.of hb)))
  have hb2 := Lib.hid hb
  clear hb hf he
  go_wp2_with fail
  refine C2.out.mono ?_
  rintro e w3 ⟨rfl, b3⟩
  go_wp2
  go_ret
  exact ⟨rfl, hb2.out.trans (b3.mono hb2.out.size)⟩
set_option maxRecDepth 100000 in
set_option maxHeartbeats 1000000 in
theorem each1_walk {nb : Nat} (t : Tn) (A : Option Addr) (c : Nat) (v : Value) (p : TT) (pb : Nat → Prop) (g : Nat) (W : World) (hn : nb ≤ W.heap.size) (hv : Tst nb W v p) (h1 : W.cell? ⟨g, 0, none⟩ = some v) (hA : AtS pb W t.kids (.slice A t.kids.length c)) (hF : Fit t) :
    Calls Tryz.prog 144 #[nodA t.datum A t.kids.length c, .pointer (some ⟨g, 0, none⟩)] W fun e w' => e = .returned (.bool (t.kids.all p)) ∧ Below W.heap.size W w' := by
  have l1 := cell_lt h1
  have HB := Lib.hid (b1 (w := W))
  have C1 := Lib.hid (fun X => aevery_any t.kids A c v p pb (W.alloc X) (Nat.le_trans hn (b1 X).size) (hv.on (b1 X)) (hA.keep (fun b _ hl => (b1 X).block b hl)) (fun x hx => hF.kid hx))
  obtain ⟨f, cf, rfl, he, hf⟩ := hv
  clear hf hA hF
  unfold nodA
  go_enter Tryz.func144, Tryz.ntmps144
  go_wp2_with fail
  refine (C1.out _).mono ?_
  rintro e w3 ⟨rfl, b3⟩
  go_wp2
  go_ret
  exact ⟨rfl, (HB.out _).trans (b3.mono (HB.out _).size)⟩
set_option maxRecDepth 100000 in
set_option maxHeartbeats 1000000 in
theorem aeach_any {nb : Nat} {W : World} (hn : nb ≤ W.heap.size) {s : Value} {p : TT} (hs : Tst nb W s p) : Calls Tryz.prog 91 #[s] W fun e w' => ∃ v, e = .returned v ∧ Tst nb w' v (tEach p) ∧ Below W.heap.size W w' := by
  have HS := Lib.hid hs
  obtain ⟨f, cf, rfl, he, hf⟩ := hs
  go_enter Tryz.func91, Tryz.ntmps91
  go_wp2
  go_ret
  have B1 : Below W.heap.size W (W.alloc (.cells #[.func (.func f) #[] cf] 61)) := b1 _
  refine ⟨_, rfl, ⟨144, _, rfl, enters_of Tryz.func144 (by kernel_rfl) rfl, fun W2 x A c pb hW hA hF => ?_⟩, B1⟩
  have z : (W.alloc (.cells #[.func (.func f) #[] cf] 61)).heap.size = W.heap.size + 1 := by simp
  have hWW : Abv nb W W2 := hW.after B1
  have c1 : W2.cell? ⟨W.heap.size, 0, none⟩ = some (.func (.func f) #[] cf) := (World.cell?_of_block (hW.block W.heap.size hn (by rw [z]; omega))).trans (by simp)
  exact each1_walk x A c _ p pb _ W2 (Nat.le_trans hn hWW.size) (HS.out.abv hWW) c1 hA hF
end Go.Proofs.YtfpmhahjemdodaaGreatDoor
namespace Go.Proofs.YtfpmhahjemdodaaGreatDoor
open Go.RowKit Go.Shelf
attribute [local go_sem] stFl hmf
/-- A list with one element exchanged. -/
def lset : List Value → Nat → Value → List Value
  | [], _, _ => []
  | _ :: r, 0, v => v :: r
  | a :: r, n + 1, v => a :: lset r n v
theorem lset_eq : ∀ (l : List Value) (k : Nat) (v : Value), l.set k v = lset l k v
  | [], _, _ => rfl
  | _ :: _, 0, _ => rfl
  | a :: r, n + 1, v => by rw [List.set_cons_succ, lset_eq r n v]; rfl
theorem put_l (l : List Value) (d : List Deferred) (k : Nat) (v : Value) : Act.put { tmps := l.toArray, defers := d } (some k) v = { tmps := (lset l k v).toArray, defers := d } := by
  simp [Act.put, lset_eq]
theorem take_s {P : Program} {md : Region.Mode} {ops : Array Oper} {Q : Exit → Act → World → Prop} {S : World → Prop} {i k fuel : Nat} {oi : Oper} {v : Value} {listed : Array Bool} {l : List Value} {d : List Deferred} {w : World}
    (hi : ops[i]? = some oi) (hs : Region.noSelect ops = true) (hf : Region.free md ops listed i = true) (hr : (Region.ready md ops listed).contains i = true)
    (hQ : ∀ c a w, Q (.panic c) (a.put oi.dst v) w → Q (.panic c) a w) (hy : YieldsIf P ops S oi v { tmps := l.toArray, defers := d }) (hd : oi.dst = some k) (hS : S w)
    (h : wpAnyH P md ops Q S fuel (listed.setIfInBounds i true) { tmps := (lset l k v).toArray, defers := d } w) : wpAnyH P md ops Q S (fuel + 1) listed { tmps := l.toArray, defers := d } w :=
  wpAnyH_take hi hs hf hr hQ hy hS (by rw [hd, put_l]; exact h)
theorem call_s {P : Program} {md : Region.Mode} {ops : Array Oper} {Q : Exit → Act → World → Prop} {S : World → Prop} {i k fuel : Nat} {oi : Oper} {listed : Array Bool} {l : List Value} {d : List Deferred} {w : World}
    (hr : Region.ready md ops listed = [i]) (hi : ops[i]? = some oi) (hd : oi.dst = some k) (hw : Region.wanted oi (yielded ops l.toArray) = true)
    (h : ∀ K : Act → World → Prop, Hid (∀ v w', S w' → wpAnyH P md ops Q S fuel (listed.setIfInBounds i true) { tmps := (lset l k v).toArray, defers := d } w' → K (Act.put { tmps := l.toArray, defers := d } oi.dst v) w') → Oper.wp P oi { tmps := l.toArray, defers := d } w K Q) :
    wpAnyH P md ops Q S (fuel + 1) listed { tmps := l.toArray, defers := d } w :=
  wpAnyH_ready hr (by simp) (AllReadyH.cons hi (fun K hK => by
    rw [if_pos hw]
    refine h K (Lib.hid fun v w' hS hW => ?_)
    refine hK.out _ _ hS (fun _ => ?_)
    rw [hd, put_l]
    exact hW) AllReadyH.nil)
/-- The rest of a slice behind its first node. -/
theorem AtS.tail {pb : Nat → Prop} {W : World} {y : Tn} {l : List Tn} {b o c : Nat} (h : AtS pb W (y :: l) (.slice (some ⟨b, o, none⟩) (y :: l).length c)) : AtS pb W l (.slice (some ⟨b, o + 7, none⟩) l.length (c - 1)) := by
  obtain ⟨A', c', e, hm, hn⟩ := h
  cases e
  obtain ⟨b', o', e2, hp, hL⟩ := hn (by simp)
  cases e2
  rw [AtL] at hL
  simp only [List.length_cons] at hm
  exact ⟨_, _, rfl, ⟨by omega, by omega⟩, fun _ => ⟨b, o + 7, rfl, hp, hL.2⟩⟩
set_option maxRecDepth 100000 in
set_option maxHeartbeats 2000000 in
theorem first1_f (d : Nd) (b o k c n : Nat) (d2 : Nd) (A2 : Option Addr) (k2 c2 : Nat) (p1 p2 f : Nat) (cf : Array Value) (vg : Value) (W : World) (he : ∀ args W, (callFunc f args).run Tryz.prog W = .ok (.enter f args) W) (hk : k = n + 1) (hc : k ≤ c) (hm : k ≤ maxLen)
    (h1 : W.cell? ⟨p1, 0, none⟩ = some (.func (.func f) #[] cf)) (h2 : W.cell? ⟨p2, 0, none⟩ = some vg)
    (k0 : W.cell? ⟨b, o, none⟩ = some (.int .i64 d2.k)) (k1 : W.cell? ⟨b, o + 1, none⟩ = some (.string d2.op)) (k2' : W.cell? ⟨b, o + 2, none⟩ = some (.string d2.st)) (k3 : W.cell? ⟨b, o + 3, none⟩ = some (.float .f64 d2.nm)) (k4 : W.cell? ⟨b, o + 4, none⟩ = some (.bool d2.fl)) (k5 : W.cell? ⟨b, o + 5, none⟩ = some (.slice A2 k2 c2)) (k6 : W.cell? ⟨b, o + 6, none⟩ = some (.int .i64 d2.ps))
    (C1 : Hid (∀ W', Below W.heap.size W W' → Calls Tryz.prog f (#[nodA d2 A2 k2 c2] ++ cf) W' fun e w' => e = .returned (.bool false) ∧ Below W'.heap.size W' w')) :
    Calls Tryz.prog 139 #[nodA d (some ⟨b, o, none⟩) k c, .pointer (some ⟨p1, 0, none⟩), .pointer (some ⟨p2, 0, none⟩)] W fun e w' => e = .returned (.bool false) ∧ Below W.heap.size W w' := by
  have HB := Lib.hid (b1 (w := W))
  unfold nodA at C1 ⊢
  subst hk
  have hc' : 1 ≤ n + 1 := by omega
  have hk1 : ((n + 1 : Nat) : Int) - 1 = (n : Int) := by omega
  have hkn : (n + 1 : Nat) - 1 = n := by omega
  have hpos : (0 : Int) < ((n + 1 : Nat) : Int) := by omega
  have h1n : (1 : Int) ≤ (n : Int) + 1 := by omega
  obtain ⟨W1, hW1⟩ : ∃ W1, boxN W d (some ⟨b, o, none⟩) (n + 1) c = W1 := ⟨_, rfl⟩
  have bW : Below W.heap.size W W1 := by rw [← hW1]; exact b1 _
  have g1 := cell_kept h1 bW
  have g2 := cell_kept h2 bW
  have m0 := cell_kept k0 bW
  have m1 := cell_kept k1 bW
  have m2 := cell_kept k2' bW
  have m3 := cell_kept k3 bW
  have m4 := cell_kept k4 bW
  have m5 := cell_kept k5 bW
  have m6 := cell_kept k6 bW
  have s5 : W1.cell? ⟨W.heap.size, 5, none⟩ = some (.slice (some ⟨b, o, none⟩) (n + 1 : Nat) c) := by rw [← hW1]; simp
  have C1 : Hid (∀ W', Below W1.heap.size W1 W' → _) := Lib.hid fun W' hb => C1.out W' (bW.trans (hb.mono bW.size))
  clear h1 h2 k0 k1 k2' k3 k4 k5 k6
  go_enter Tryz.func139, Tryz.ntmps139
  go_upto_region 1 with fail
  have HW := Lib.hid bW
  clear hW1 bW
  refine wp_region_held_drew (S := fun wx => Below W1.heap.size W1 wx) (by kernel_rfl) ((Below.refl _ _).drew) (fun hHeld => ?_)
  refine take_s (i := 0) rfl (by kernel_rfl) (by kernel_rfl) (by kernel_rfl) (fun _ _ _ h => h) (Or.inl ⟨by rfl, by (intro w hS; go_simp; try with_reducible rfl)⟩) rfl (by assumption) ?_; simp only [lset]
  refine take_s (i := 1) rfl (by kernel_rfl) (by kernel_rfl) (by kernel_rfl) (fun _ _ _ h => h) (Or.inl ⟨by rfl, by (intro w hS; have q0 := cell_kept s5 hS; go_simp; try with_reducible rfl)⟩) rfl (by assumption) ?_; simp only [lset]
  refine take_s (i := 2) rfl (by kernel_rfl) (by kernel_rfl) (by kernel_rfl) (fun _ _ _ h => h) (Or.inl ⟨by rfl, by (intro w hS; go_simp; try with_reducible rfl)⟩) rfl (by assumption) ?_; simp only [lset]
  refine take_s (i := 3) rfl (by kernel_rfl) (by kernel_rfl) (by kernel_rfl) (fun _ _ _ h => h) (Or.inl ⟨by rfl, by (intro w hS; go_simp; try with_reducible rfl)⟩) rfl (by assumption) ?_; simp only [lset]
  refine take_s (i := 4) rfl (by kernel_rfl) (by kernel_rfl) (by kernel_rfl) (fun _ _ _ h => h) (Or.inl ⟨by rfl, by (intro w hS; go_simp; try with_reducible rfl)⟩) rfl (by assumption) ?_; simp only [lset]
  refine take_s (i := 5) rfl (by kernel_rfl) (by kernel_rfl) (by kernel_rfl) (fun _ _ _ h => h) (Or.inl ⟨by rfl, by (intro w hS; have q0 := cell_kept g1 hS; go_simp; try with_reducible rfl)⟩) rfl (by assumption) ?_; simp only [lset]
  refine take_s (i := 6) rfl (by kernel_rfl) (by kernel_rfl) (by kernel_rfl) (fun _ _ _ h => h) (Or.inl ⟨by rfl, by (intro w hS; go_simp; try with_reducible rfl)⟩) rfl (by assumption) ?_; simp only [lset]
  refine take_s (i := 7) rfl (by kernel_rfl) (by kernel_rfl) (by kernel_rfl) (fun _ _ _ h => h) (Or.inl ⟨by rfl, by (intro w hS; have q0 := cell_kept s5 hS; go_simp; try with_reducible rfl)⟩) rfl (by assumption) ?_; simp only [lset]
  refine take_s (i := 8) rfl (by kernel_rfl) (by kernel_rfl) (by kernel_rfl) (fun _ _ _ h => h) (Or.inl ⟨by rfl, by (intro w hS; go_simp; try with_reducible rfl)⟩) rfl (by assumption) ?_; simp only [lset]
  refine take_s (i := 9) rfl (by kernel_rfl) (by kernel_rfl) (by kernel_rfl) (fun _ _ _ h => h) (Or.inl ⟨by rfl, by (intro w hS; have q0 := cell_kept m0 hS; have q1 := cell_kept m1 hS; have q2 := cell_kept m2 hS; have q3 := cell_kept m3 hS; have q4 := cell_kept m4 hS; have q5 := cell_kept m5 hS; have q6 := cell_kept m6 hS; go_simp; try with_reducible rfl)⟩) rfl (by assumption) ?_; simp only [lset]
  refine call_s (i := 10) (by kernel_rfl) rfl rfl (by rfl) (fun K hK => ?_)
  go_simp
  refine (C1.out _ hHeld).mono ?_
  rintro e w2 ⟨rfl, b2⟩
  have hHe2 := hHeld.trans (b2.mono hHeld.size)
  clear hHeld b2
  refine hK.out _ _ hHe2 ?_; clear hK K; simp only [lset]
  have hHeld := hHe2; clear hHe2
  refine take_s (i := 11) rfl (by kernel_rfl) (by kernel_rfl) (by kernel_rfl) (fun _ _ _ h => h) (Or.inl ⟨by rfl, by (intro w hS; go_simp; try with_reducible rfl)⟩) rfl (by assumption) ?_; simp only [lset]
  refine take_s (i := 12) rfl (by kernel_rfl) (by kernel_rfl) (by kernel_rfl) (fun _ _ _ h => h) (Or.inl ⟨by rfl, by (intro w hS; go_simp; try with_reducible rfl)⟩) rfl (by assumption) ?_; simp only [lset]
  refine take_s (i := 13) rfl (by kernel_rfl) (by kernel_rfl) (by kernel_rfl) (fun _ _ _ h => h) (Or.inr ⟨by rfl, rfl⟩) rfl (by assumption) ?_; simp only [lset]
  refine take_s (i := 14) rfl (by kernel_rfl) (by kernel_rfl) (by kernel_rfl) (fun _ _ _ h => h) (Or.inr ⟨by rfl, rfl⟩) rfl (by assumption) ?_; simp only [lset]
  refine take_s (i := 15) rfl (by kernel_rfl) (by kernel_rfl) (by kernel_rfl) (fun _ _ _ h => h) (Or.inr ⟨by rfl, rfl⟩) rfl (by assumption) ?_; simp only [lset]
  refine take_s (i := 16) rfl (by kernel_rfl) (by kernel_rfl) (by kernel_rfl) (fun _ _ _ h => h) (Or.inr ⟨by rfl, rfl⟩) rfl (by assumption) ?_; simp only [lset]
  refine take_s (i := 17) rfl (by kernel_rfl) (by kernel_rfl) (by kernel_rfl) (fun _ _ _ h => h) (Or.inr ⟨by rfl, rfl⟩) rfl (by assumption) ?_; simp only [lset]
  refine take_s (i := 18) rfl (by kernel_rfl) (by kernel_rfl) (by kernel_rfl) (fun _ _ _ h => h) (Or.inl ⟨by rfl, by (intro w hS; go_simp; try with_reducible rfl)⟩) rfl (by assumption) ?_; simp only [lset]
  refine take_s (i := 19) rfl (by kernel_rfl) (by kernel_rfl) (by kernel_rfl) (fun _ _ _ h => h) (Or.inl ⟨by rfl, by (intro w hS; go_simp; try with_reducible rfl)⟩) rfl (by assumption) ?_; simp only [lset]
  refine wpAnyH_done (by kernel_rfl) ?_ _
  have HS := Lib.hid hHeld
  clear hHeld
  go_wp2
  go_ret
  exact ⟨rfl, HW.out.trans (HS.out.mono HW.out.size)⟩
set_option maxRecDepth 100000 in
set_option maxHeartbeats 2000000 in
theorem first1_t (d : Nd) (b o k c n : Nat) (d2 : Nd) (A2 : Option Addr) (k2 c2 : Nat) (p1 p2 f : Nat) (cf : Array Value) (vg : Value) (W : World) (he : ∀ args W, (callFunc f args).run Tryz.prog W = .ok (.enter f args) W) (hk : k = n + 1) (hc : k ≤ c) (hm : k ≤ maxLen)
    (h1 : W.cell? ⟨p1, 0, none⟩ = some (.func (.func f) #[] cf)) (h2 : W.cell? ⟨p2, 0, none⟩ = some vg)
    (k0 : W.cell? ⟨b, o, none⟩ = some (.int .i64 d2.k)) (k1 : W.cell? ⟨b, o + 1, none⟩ = some (.string d2.op)) (k2' : W.cell? ⟨b, o + 2, none⟩ = some (.string d2.st)) (k3 : W.cell? ⟨b, o + 3, none⟩ = some (.float .f64 d2.nm)) (k4 : W.cell? ⟨b, o + 4, none⟩ = some (.bool d2.fl)) (k5 : W.cell? ⟨b, o + 5, none⟩ = some (.slice A2 k2 c2)) (k6 : W.cell? ⟨b, o + 6, none⟩ = some (.int .i64 d2.ps))
    (C1 : Hid (∀ W', Below W.heap.size W W' → Calls Tryz.prog f (#[nodA d2 A2 k2 c2] ++ cf) W' fun e w' => e = .returned (.bool true) ∧ Below W'.heap.size W' w'))
    (y : Bool) (A3 : Option Addr) (hq : (if c = 1 then some (⟨b, o, none⟩ : Addr) else some ⟨b, o + 7, none⟩) = A3) (C2 : Hid (∀ W', Below W.heap.size W W' → Calls Tryz.prog 140 #[.slice A3 n (c - 1), vg] W' fun e w' => e = .returned (.bool y) ∧ Below W'.heap.size W' w')) :
    Calls Tryz.prog 139 #[nodA d (some ⟨b, o, none⟩) k c, .pointer (some ⟨p1, 0, none⟩), .pointer (some ⟨p2, 0, none⟩)] W fun e w' => e = .returned (.bool y) ∧ Below W.heap.size W w' := by
  have HB := Lib.hid (b1 (w := W))
  unfold nodA at C1 ⊢
  subst hk
  have hc' : 1 ≤ n + 1 := by omega
  have hk1 : ((n + 1 : Nat) : Int) - 1 = (n : Int) := by omega
  have hkn : (n + 1 : Nat) - 1 = n := by omega
  have hpos : (0 : Int) < ((n + 1 : Nat) : Int) := by omega
  have h1n : (1 : Int) ≤ (n : Int) + 1 := by omega
  obtain ⟨W1, hW1⟩ : ∃ W1, boxN W d (some ⟨b, o, none⟩) (n + 1) c = W1 := ⟨_, rfl⟩
  have bW : Below W.heap.size W W1 := by rw [← hW1]; exact b1 _
  have g1 := cell_kept h1 bW
  have g2 := cell_kept h2 bW
  have m0 := cell_kept k0 bW
  have m1 := cell_kept k1 bW
  have m2 := cell_kept k2' bW
  have m3 := cell_kept k3 bW
  have m4 := cell_kept k4 bW
  have m5 := cell_kept k5 bW
  have m6 := cell_kept k6 bW
  have s5 : W1.cell? ⟨W.heap.size, 5, none⟩ = some (.slice (some ⟨b, o, none⟩) (n + 1 : Nat) c) := by rw [← hW1]; simp
  have C1 : Hid (∀ W', Below W1.heap.size W1 W' → _) := Lib.hid fun W' hb => C1.out W' (bW.trans (hb.mono bW.size))
  clear h1 h2 k0 k1 k2' k3 k4 k5 k6
  have C2 : Hid (∀ W', Below W1.heap.size W1 W' → _) := Lib.hid fun W' hb => C2.out W' (bW.trans (hb.mono bW.size))
  go_enter Tryz.func139, Tryz.ntmps139
  go_upto_region 1 with fail
  have HW := Lib.hid bW
  clear hW1 bW
  refine wp_region_held_drew (S := fun wx => Below W1.heap.size W1 wx) (by kernel_rfl) ((Below.refl _ _).drew) (fun hHeld => ?_)
  refine take_s (i := 0) rfl (by kernel_rfl) (by kernel_rfl) (by kernel_rfl) (fun _ _ _ h => h) (Or.inl ⟨by rfl, by (intro w hS; go_simp; try with_reducible rfl)⟩) rfl (by assumption) ?_; simp only [lset]
  refine take_s (i := 1) rfl (by kernel_rfl) (by kernel_rfl) (by kernel_rfl) (fun _ _ _ h => h) (Or.inl ⟨by rfl, by (intro w hS; have q0 := cell_kept s5 hS; go_simp; try with_reducible rfl)⟩) rfl (by assumption) ?_; simp only [lset]
  refine take_s (i := 2) rfl (by kernel_rfl) (by kernel_rfl) (by kernel_rfl) (fun _ _ _ h => h) (Or.inl ⟨by rfl, by (intro w hS; go_simp; try with_reducible rfl)⟩) rfl (by assumption) ?_; simp only [lset]
  refine take_s (i := 3) rfl (by kernel_rfl) (by kernel_rfl) (by kernel_rfl) (fun _ _ _ h => h) (Or.inl ⟨by rfl, by (intro w hS; go_simp; try with_reducible rfl)⟩) rfl (by assumption) ?_; simp only [lset]
  refine take_s (i := 4) rfl (by kernel_rfl) (by kernel_rfl) (by kernel_rfl) (fun _ _ _ h => h) (Or.inl ⟨by rfl, by (intro w hS; go_simp; try with_reducible rfl)⟩) rfl (by assumption) ?_; simp only [lset]
  refine take_s (i := 5) rfl (by kernel_rfl) (by kernel_rfl) (by kernel_rfl) (fun _ _ _ h => h) (Or.inl ⟨by rfl, by (intro w hS; have q0 := cell_kept g1 hS; go_simp; try with_reducible rfl)⟩) rfl (by assumption) ?_; simp only [lset]
  refine take_s (i := 6) rfl (by kernel_rfl) (by kernel_rfl) (by kernel_rfl) (fun _ _ _ h => h) (Or.inl ⟨by rfl, by (intro w hS; go_simp; try with_reducible rfl)⟩) rfl (by assumption) ?_; simp only [lset]
  refine take_s (i := 7) rfl (by kernel_rfl) (by kernel_rfl) (by kernel_rfl) (fun _ _ _ h => h) (Or.inl ⟨by rfl, by (intro w hS; have q0 := cell_kept s5 hS; go_simp; try with_reducible rfl)⟩) rfl (by assumption) ?_; simp only [lset]
  refine take_s (i := 8) rfl (by kernel_rfl) (by kernel_rfl) (by kernel_rfl) (fun _ _ _ h => h) (Or.inl ⟨by rfl, by (intro w hS; go_simp; try with_reducible rfl)⟩) rfl (by assumption) ?_; simp only [lset]
  refine take_s (i := 9) rfl (by kernel_rfl) (by kernel_rfl) (by kernel_rfl) (fun _ _ _ h => h) (Or.inl ⟨by rfl, by (intro w hS; have q0 := cell_kept m0 hS; have q1 := cell_kept m1 hS; have q2 := cell_kept m2 hS; have q3 := cell_kept m3 hS; have q4 := cell_kept m4 hS; have q5 := cell_kept m5 hS; have q6 := cell_kept m6 hS; go_simp; try with_reducible rfl)⟩) rfl (by assumption) ?_; simp only [lset]
  refine call_s (i := 10) (by kernel_rfl) rfl rfl (by rfl) (fun K hK => ?_)
  go_simp
  refine (C1.out _ hHeld).mono ?_
  rintro e w2 ⟨rfl, b2⟩
  have hHe2 := hHeld.trans (b2.mono hHeld.size)
  clear hHeld b2
  refine hK.out _ _ hHe2 ?_; clear hK K; simp only [lset]
  have hHeld := hHe2; clear hHe2
  refine take_s (i := 11) rfl (by kernel_rfl) (by kernel_rfl) (by kernel_rfl) (fun _ _ _ h => h) (Or.inl ⟨by rfl, by (intro w hS; go_simp; try with_reducible rfl)⟩) rfl (by assumption) ?_; simp only [lset]
  refine take_s (i := 12) rfl (by kernel_rfl) (by kernel_rfl) (by kernel_rfl) (fun _ _ _ h => h) (Or.inl ⟨by rfl, by (intro w hS; go_simp; try with_reducible rfl)⟩) rfl (by assumption) ?_; simp only [lset]
  refine take_s (i := 13) rfl (by kernel_rfl) (by kernel_rfl) (by kernel_rfl) (fun _ _ _ h => h) (Or.inl ⟨by rfl, by (intro w hS; go_simp; try with_reducible rfl)⟩) rfl (by assumption) ?_; simp only [lset]
  refine take_s (i := 14) rfl (by kernel_rfl) (by kernel_rfl) (by kernel_rfl) (fun _ _ _ h => h) (Or.inl ⟨by rfl, by (intro w hS; have q0 := cell_kept s5 hS; go_simp; try with_reducible rfl)⟩) rfl (by assumption) ?_; simp only [lset]
  refine take_s (i := 15) rfl (by kernel_rfl) (by kernel_rfl) (by kernel_rfl) (fun _ _ _ h => h) (Or.inl ⟨by rfl, by (intro w hS; go_simp; try with_reducible rfl)⟩) rfl (by assumption) ?_; simp only [lset]
  refine take_s (i := 16) rfl (by kernel_rfl) (by kernel_rfl) (by kernel_rfl) (fun _ _ _ h => h) (Or.inl ⟨by rfl, by (intro w hS; have q0 := cell_kept g2 hS; go_simp; try with_reducible rfl)⟩) rfl (by assumption) ?_; simp only [lset]
  refine call_s (i := 17) (by kernel_rfl) rfl rfl (by rfl) (fun K hK => ?_)
  go_simp
  refine (C2.out _ hHeld).mono ?_
  rintro e w2 ⟨rfl, b2⟩
  have hHe2 := hHeld.trans (b2.mono hHeld.size)
  clear hHeld b2
  refine hK.out _ _ hHe2 ?_; clear hK K; simp only [lset]
  have hHeld := hHe2; clear hHe2
  refine take_s (i := 18) rfl (by kernel_rfl) (by kernel_rfl) (by kernel_rfl) (fun _ _ _ h => h) (Or.inl ⟨by rfl, by (intro w hS; go_simp; try with_reducible rfl)⟩) rfl (by assumption) ?_; simp only [lset]
  refine take_s (i := 19) rfl (by kernel_rfl) (by kernel_rfl) (by kernel_rfl) (fun _ _ _ h => h) (Or.inl ⟨by rfl, by (intro w hS; go_simp; try with_reducible rfl)⟩) rfl (by assumption) ?_; simp only [lset]
  refine wpAnyH_done (by kernel_rfl) ?_ _
  have HS := Lib.hid hHeld
  clear hHeld
  go_wp2
  go_ret
  exact ⟨rfl, HW.out.trans (HS.out.mono HW.out.size)⟩
end Go.Proofs.YtfpmhahjemdodaaGreatDoor
