/-
  Merged texts (No, Np, Nq, ZzJ, Nn, Nr, Ne, Ns, ZzL, ZzK, Va, Vb, Vc, Vd, Ve, Vf).
-/
import Derived.Test.YtmimeejjaneedaaGreatDoorQle
open Go.RowKit
set_option maxRecDepth 100000
set_option maxHeartbeats 40000000
namespace Go.Proofs.YtmimeejjaneedaaGreatDoor
section
def mrkW : List (List UInt8) := [[123], [125], [40], [41], [91], [93], [46], [59], [44], [63], [58], [60], [62], [60, 61], [62, 61], [61, 61], [33, 61], [61, 61, 61], [33, 61, 61], [43], [45], [42], [47], [37], [43, 43], [45, 45], [60, 60], [62, 62], [62, 62, 62], [38], [124], [94], [33], [126], [38, 38], [124, 124], [61], [43, 61], [45, 61], [42, 61], [47, 61], [37, 61], [60, 60, 61], [62, 62, 61], [62, 62, 62, 61], [38, 61], [124, 61], [94, 61]]
theorem Yb (s : ByteArray) (w : World) (hs : s.size ≤ 17592186044416) :
  Ct 110 #[.string s] (.bool (mrkW.any fun x => (⟨(J2 s).toArray⟩ : ByteArray).toList == x)) w := by
 have C1 := Lh (fun W => Og s W hs)
 obtain ⟨E, hE⟩ : ∃ E : ByteArray, (⟨(J2 s).toArray⟩ : ByteArray) = E := ⟨_, rfl⟩
 rw [hE] at C1 ⊢
 clear hs hE
 go_enter Tryz.func110, Tryz.ntmps110
 go_wp2_with fail
 refine (C1.out _).mono ?_
 rintro e w' ⟨rfl, hb⟩
 go_wp2
 all_goals try go_ret
 all_goals first
  | exact ⟨by simp only [mrkW, List.any_cons, List.any_nil, *, Bool.true_or, Bool.false_or, Bool.or_true]; rfl, hb⟩
  | (exfalso; simp_all)
theorem Qe {W : List (List UInt8)} {M : List (List Nat)} (h1 : ∀ x ∈ W, ∃ m ∈ M, x = m.map UInt8.ofNat) (h2 : ∀ m ∈ M, m.map UInt8.ofNat ∈ W) (hp : ∀ m ∈ M, ∀ c ∈ m, c < 128 ∧ c ≠ 92) (s : ByteArray) :
  (W.any fun x => (⟨(J2 s).toArray⟩ : ByteArray).toList == x) = M.contains (us s) := by
 have e : (⟨(J2 s).toArray⟩ : ByteArray).toList = J2 s := by rw [Lib.toList_data]
 rw [e, Bool.eq_iff_iff, List.any_eq_true, List.contains_iff_mem]
 constructor
 ·rintro ⟨x, hx, hq⟩
  obtain ⟨m, hm, rfl⟩ := h1 x hx
  rw [(Pl s (hp m hm)).1 (by simpa using hq)]
  exact hm
 ·intro h
  exact ⟨_, h2 _ h, by rw [(Pl s (hp _ h)).2 rfl]; simp⟩
theorem Air : ∀ x ∈ mrkW, ∃ m ∈ marksL, x = m.map UInt8.ofNat := by decide +kernel
theorem Ahz : ∀ m ∈ marksL, m.map UInt8.ofNat ∈ mrkW := by decide +kernel
theorem Ail : ∀ x ∈ resW, ∃ m ∈ wordsL, x = m.map UInt8.ofNat := by decide +kernel
theorem Ah4 : ∀ m ∈ wordsL, m.map UInt8.ofNat ∈ resW := by decide +kernel
theorem Yo (s : ByteArray) (w : World) (hs : s.size ≤ 17592186044416) :
  Ct 110 #[.string s] (.bool (Fy (us s))) w := by
 have h := Yb s w hs
 rw [Qe Air Ahz Up] at h
 exact h
theorem Oy (s : ByteArray) (w : World) (hs : s.size ≤ 17592186044416) :
  Ct 18 #[.string s] (.bool (Il (us s))) w := by
 have h := Ox s w hs
 rw [Qe Ail Ah4 Uo] at h
 exact h
theorem Yu {L : List Nat} {n : Nat} (hn : n ≤ 4) (h1 : Fy (L.take n) = true) (h2 : ∀ m, n < m → m ≤ 4 → Fy (L.take m) = false) : Eh L = some (L.take n) := by
 cases hm : Eh L with
 | none => rw [Aan hm] at h1; cases h1
 | some t =>
  obtain ⟨g1, g2, g3, g4, g5⟩ := Kp hm
  rcases Nat.lt_or_ge n t.length with h | h
  ·have := h2 _ h g2
   rw [g3, g4] at this
   cases this
  ·rw [g5 n h hn h1]
theorem Xr {L : List Nat} (h : ∀ m, 0 < m → m ≤ 4 → Fy (L.take m) = false) : Eh L = none := by
 cases hm : Eh L with
 | none => rfl
 | some t =>
  obtain ⟨g1, g2, g3, g4, g5⟩ := Kp hm
  have := h _ g1 g2
  rw [g3, g4] at this
  cases this
theorem Ah9 (s : ByteArray) (k n : Nat) (hk : k ≤ ln s) : slS s (k : Int) ((k + n : Nat) : Int) = ⟨(bL (((us s).drop k).take n)).toArray⟩ := by
 rcases Nat.lt_or_ge (k + n) (ln s) with h | h
 ·exact Qn s k n (by omega)
 ·have e : slS s (k : Int) ((k + n : Nat) : Int) = slS s (k : Int) ((k + (ln s - k) : Nat) : Int) := by
   unfold slS
   rw [Int.min_eq_right (by omega), show k + (ln s - k) = ln s by omega, Int.min_self]
  rw [e, Qn s k _ (by omega), List.take_of_length_le (by rw [List.length_drop, Ab]; omega), List.take_of_length_le (by rw [List.length_drop, Ab]; omega)]
def mkV (k : Nat) (o : Option (List Nat)) : Option Value := o.map fun t => tkV 4 ⟨(bL t).toArray⟩ 0 false false 0 (k + t.length)
theorem Aas (s : ByteArray) (k : Nat) (w : World) (hs : s.size ≤ 140737488355328) (hk : k ≤ ln s) :
  Cp 72 #[.string s, .int .i64 k] w fun e w' => e = Em (mkV k (Eh ((us s).drop k))) ∧ Below w.heap.size w w' := by
 have hs63 : s.size ≤ maxLen := by unfold maxLen; omega
 have hln := Ap s
 have hkl : (k : Int) ≤ 70368744177664 := by omega
 obtain ⟨L, hL⟩ : ∃ L, (us s).drop k = L := ⟨_, rfl⟩
 have CS : ∀ (i : Nat), i ≤ 3 → ∀ W, Cq 109 #[.string s, .int .i64 k, .int .i64 ((k : Int) + 4 - (i : Int))] (.string ⟨(bL (L.take (4 - i))).toArray⟩) W := fun i hi W => by
  have h := Pn s (k : Int) ((k : Int) + 4 - (i : Int)) W hs63
  rw [show (k : Int) + 4 - (i : Int) = ((k + (4 - i) : Nat) : Int) by omega, Ah9 s k (4 - i) hk, hL] at h
  rw [show (k : Int) + 4 - (i : Int) = ((k + (4 - i) : Nat) : Int) by omega]
  exact h
 have hX : ∀ n, n ≤ 4 → (⟨(bL (L.take n)).toArray⟩ : ByteArray).size ≤ 8 ∧ us ⟨(bL (L.take n)).toArray⟩ = L.take n := fun n hn => ⟨by
  show (bL (L.take n)).toArray.size ≤ 8
  rw [List.size_toArray, Dl, List.length_take]
  omega, Zx fun u hu => J1 s u (List.mem_of_mem_drop (by rw [hL]; exact List.mem_of_mem_take hu))⟩
 have CS := Lh CS
 have HX := Lh hX
 rw [hL]
 obtain ⟨R, hR⟩ : ∃ R, Eh L = R := ⟨_, rfl⟩
 rw [hR]
 have HR := Lh hR
 have T0 := Lh (TB.start w)
 clear hs hs63 hln hk hL hX hR
 go_enter Tryz.func72, Tryz.ntmps72
 go_wp2
 go_loopw [8] (fun iv wr => ∃ i : Nat, iv = .int .i64 i ∧ i ≤ 4 ∧ TB w wr ∧ Hid (∀ m, 4 - i < m → m ≤ 4 → Fy (L.take m) = false)) (fun iv _ => 4 - (intOf iv).toNat)
 case atStart => exact ⟨0, rfl, by omega, T0.out, Lh (fun m h1 h2 => by omega)⟩
 case round =>
  obtain ⟨i, rfl, hi, T, HM⟩ := hrel
  by_cases h4 : i = 4
  ·have hN := Xr (fun m h1 h2 => HM.out m (by omega) h2)
   obtain rfl : R = none := by rw [← HR.out]; exact hN
   subst h4
   have HG := Lh T.bl
   have HB := Lh T.bw
   clear T HM hN HX CS HR
   go_wp2_with (refine tkS rfl rfl w.heap.size 0 ⟨#[]⟩ 0 false false 0 0 rfl rfl HG.out ?_)
   refine tkR rfl rfl HG.out rfl rfl ⟨?_, Ae HB.out (Nat.le_refl _) _⟩
   rfl
  ·have hi3 : i ≤ 3 := by omega
   have C1 := Lh (CS.out i hi3)
   obtain ⟨n, hn⟩ : ∃ n, 4 - i = n := ⟨_, rfl⟩
   rw [hn] at C1
   have hn4 : n ≤ 4 := by omega
   obtain ⟨X, hXe⟩ : ∃ X : ByteArray, (⟨(bL (L.take n)).toArray⟩ : ByteArray) = X := ⟨_, rfl⟩
   obtain ⟨x1, x2⟩ := HX.out n hn4
   rw [hXe] at C1 x1 x2
   have C2 := fun W => Yo X W (by omega)
   have C3 := fun W => Cr X W (by unfold maxLen; omega)
   have hlX : ln X = (L.take n).length := by rw [← Ab, x2]
   have hlX4 : ln X ≤ 4 := by rw [hlX, List.length_take]; omega
   rw [x2] at C2
   have C3 := Lh C3
   cases hb : Fy (L.take n)
   ·rw [hb] at C2
    have C2 := Lh C2
    have HM2 : Hid (∀ m, 4 - (i + 1) < m → m ≤ 4 → Fy (L.take m) = false) := Lh (fun m h1 h2 => by
     rcases Nat.lt_or_ge n m with h | h
     ·exact HM.out m (by omega) h2
     ·rw [show m = n by omega]
      exact hb)
    clear hb hXe x1 x2 hlX HM HX CS h4 hn HR
    go_wp2_with fail
    refine Sm (C1.out _) ?_
    go_wp2_with fail
    refine Bm (C2.out _) fun w1 b1 => ?_
    have T1 := T.step b1
    clear T b1
    go_wp2
    go_roundw
    case rel => exact ⟨i + 1, by go_num, by omega, T1, HM2⟩
    case measure => simp [intOf]; omega
   ·rw [hb] at C2
    have C2 := Lh C2
    have hF := Yu hn4 hb (fun m h1 h2 => HM.out m (by omega) h2)
    obtain rfl : R = some (L.take n) := by rw [← HR.out]; exact hF
    obtain ⟨m, hm⟩ : ∃ m, ln X = m := ⟨_, rfl⟩
    rw [hm] at C3 hlX4
    have HE : Hid (Em (mkV k (some (L.take n))) = .returned (.tuple #[.agg #[.int .i64 4, .string X, .float .f64 0, .bool false, .bool false, .int .i64 0, .int .i64 ((k : Int) + (m : Int))], .bool true])) := Lh (by
     unfold Em mkV tkV
     rw [Option.map_some, hXe, ← hlX, hm]
     simp)
    clear hb hXe x1 x2 hlX HM HX CS h4 hn hF hm HR
    go_wp2_with fail
    refine Sm (C1.out _) ?_
    go_wp2_with fail
    refine Bm (C2.out _) fun w1 b1 => ?_
    have T1 := T.step b1
    clear T b1
    go_wp2_with fail
    refine Sm (C3.out _) ?_
    have HG := Lh T1.bl
    have HB := Lh T1.bw
    clear T1
    go_wp2_with (refine tkS rfl rfl w.heap.size 4 X 0 false false 0 ((k : Int) + (m : Int)) rfl rfl HG.out ?_)
    refine tkR rfl rfl HG.out rfl rfl ⟨?_, Ae HB.out (Nat.le_refl _) _⟩
    exact HE.out.symm

end
section
structure NB (w wr : World) (kd : Nat) (tx : ByteArray) (e : Bool) (p : Nat) : Prop where
 tb : TB w wr
 nb : wr.heap[w.heap.size + 1]? = some (.cells #[.int .i64 (kd : Int), .string tx, .float .f64 0, .bool e, .bool false, .int .i64 0, .int .i64 (p : Int)] 24 (0, 0))
 sz : w.heap.size + 2 ≤ wr.heap.size
theorem NB.cells {w wr : World} {kd : Nat} {tx : ByteArray} {e : Bool} {p : Nat} (h : NB w wr kd tx e p) :
  wr.cell? ⟨w.heap.size + 1, 0, none⟩ = some (.int .i64 (kd : Int)) ∧ wr.cell? ⟨w.heap.size + 1, 1, none⟩ = some (.string tx) ∧ wr.cell? ⟨w.heap.size + 1, 3, none⟩ = some (.bool e) ∧ wr.cell? ⟨w.heap.size + 1, 6, none⟩ = some (.int .i64 (p : Int)) ∧ (∀ k, wr.frozen? ⟨w.heap.size + 1, k, none⟩ = false) := by
 have h := h.nb
 refine ⟨by simp [World.cell?, h], by simp [World.cell?, h], by simp [World.cell?, h], by simp [World.cell?, h], fun k => by simp [World.frozen?, h]⟩
theorem NB.base {w w1 w2 : World} {kd : Nat} {tx : ByteArray} {e : Bool} {p : Nat} (h : NB w w1 kd tx e p) (hb : Below (w.heap.size + 2) w1 w2) : NB w w2 kd tx e p :=
 ⟨h.tb.base (hb.mono (by omega)), (hb.block _ (by omega)).trans h.nb, Nat.le_trans h.sz hb.size⟩
theorem NB.step {w w1 w2 : World} {kd : Nat} {tx : ByteArray} {e : Bool} {p : Nat} (h : NB w w1 kd tx e p) (hb : Below w1.heap.size w1 w2) : NB w w2 kd tx e p := h.base (hb.mono h.sz)
theorem NB.draw {w w1 : World} {kd : Nat} {tx : ByteArray} {e : Bool} {p : Nat} (h : NB w w1 kd tx e p) (n : Nat) : NB w (w1.drewN n) kd tx e p := h.step (Ac (Below.refl _ _) n)
theorem TB.other {w wr : World} (h : TB w wr) (i : Nat) (v : Value) : TB w (wr.setCell ⟨w.heap.size + 1, i, none⟩ v) :=
 ⟨(heap_setCell_other wr ⟨w.heap.size + 1, i, none⟩ w.heap.size v (by simp)).trans h.bl, h.bw.setCell (by show w.heap.size ≤ w.heap.size + 1; omega) _, by simp only [World.setCell, Array.size_modify]; exact h.sz⟩
theorem NB.put0 {w wr : World} {kd : Nat} {tx : ByteArray} {e : Bool} {p : Nat} (h : NB w wr kd tx e p) (k : Nat) : NB w (wr.setCell ⟨w.heap.size + 1, 0, none⟩ (.int .i64 (k : Int))) k tx e p :=
 ⟨h.tb.other 0 _, by have := heap_setCell_same wr (w.heap.size + 1) 0 _ _ (.int .i64 (k : Int)) h.nb; exact this, by simp only [World.setCell, Array.size_modify]; exact h.sz⟩
theorem NB.put1 {w wr : World} {kd : Nat} {tx : ByteArray} {e : Bool} {p : Nat} (h : NB w wr kd tx e p) (t : ByteArray) : NB w (wr.setCell ⟨w.heap.size + 1, 1, none⟩ (.string t)) kd t e p :=
 ⟨h.tb.other 1 _, by have := heap_setCell_same wr (w.heap.size + 1) 1 _ _ (.string t) h.nb; exact this, by simp only [World.setCell, Array.size_modify]; exact h.sz⟩
theorem NB.put3 {w wr : World} {kd : Nat} {tx : ByteArray} {e : Bool} {p : Nat} (h : NB w wr kd tx e p) (b : Bool) : NB w (wr.setCell ⟨w.heap.size + 1, 3, none⟩ (.bool b)) kd tx b p :=
 ⟨h.tb.other 3 _, by have := heap_setCell_same wr (w.heap.size + 1) 3 _ _ (.bool b) h.nb; exact this, by simp only [World.setCell, Array.size_modify]; exact h.sz⟩
theorem NB.put6 {w wr : World} {kd : Nat} {tx : ByteArray} {e : Bool} {p : Nat} (h : NB w wr kd tx e p) (q : Nat) : NB w (wr.setCell ⟨w.heap.size + 1, 6, none⟩ (.int .i64 (q : Int))) kd tx e q :=
 ⟨h.tb.other 6 _, by have := heap_setCell_same wr (w.heap.size + 1) 6 _ _ (.int .i64 (q : Int)) h.nb; exact this, by simp only [World.setCell, Array.size_modify]; exact h.sz⟩
theorem H8 {B : Nat} {l : List Nat} {v : Value} {w : World} (h : Own16 B l v w) {k i : Nat} (hk : k < B) (x : Value) : Own16 B l v (w.setCell ⟨k, i, none⟩ x) := by
 obtain ⟨hn, h⟩ := h
 refine ⟨hn, ?_⟩
 rcases h with h | ⟨g, cap, cur, hv, hb, hg, hr⟩
 ·exact .inl h
 ·exact .inr ⟨g, cap, cur, hv, hb, (heap_setCell_other w ⟨k, i, none⟩ g x (by show g ≠ k; omega)).trans hg, hr⟩
def lenOf : Value → Nat
 | .slice _ n _ => n
 | _ => 0
theorem H0 {B : Nat} {l : List Nat} {v : Value} {w : World} (h : Own16 B l v w) : ∃ a cap, v = .slice a l.length cap := by
 obtain ⟨hn, h⟩ := h
 rcases h with ⟨rfl, h0⟩ | ⟨g, cap, cur, rfl, hb, hg, hr⟩
 ·exact ⟨none, 0, by rw [h0]⟩
 ·exact ⟨_, _, rfl⟩
/-! ### Names, one unit further -/
def Jb (b : Bool) (l : List Nat) : Option (List Nat × Bool × Nat) := Fn (l.length + 1) b l
theorem Acl (b : Bool) (c : Nat) (r : List Nat) : Jb b (c :: r) =
  if c = 92 then
   if hd0 r = 117 then
    match Eo 0 4 r.tail with
    | none => none
    | some v => if Hp b v = true then (Jb false (r.drop 5)).map fun p => (v :: p.1, true, 6 + p.2.2) else none
   else none
  else if Hp b c = true then (Jb false r).map fun p => (c :: p.1, p.2.1, 1 + p.2.2)
  else some ([], false, 0) := by
 show Fn ((c :: r).length + 1) b (c :: r) = _
 rw [Fn]
 split
 ·split
  ·cases he : Eo 0 4 r.tail with
   | none => rfl
   | some v =>
    simp only []
    rw [Kf _ ((r.drop 5).length + 1) false (r.drop 5) (by simp; omega) (by omega)]
    rfl
  ·rfl
 ·rw [Kf _ (r.length + 1) false r (by simp) (by omega)]
  rfl

end
section
theorem NB.start (w : World) (k : Nat) : NB w (((w.alloc (.cells #[.int .i64 0, .string ⟨#[]⟩, .float .f64 0, .bool false, .bool false, .int .i64 0, .int .i64 0] 24)).alloc (.cells #[.int .i64 0, .string ⟨#[]⟩, .float .f64 0, .bool false, .bool false, .int .i64 0, .int .i64 0] 24)).setRow (w.heap.size + 1) #[.int .i64 2, .string ⟨#[]⟩, .float .f64 0, .bool false, .bool false, .int .i64 0, .int .i64 (k : Int)]) 2 ⟨#[]⟩ false k := by
 have h1 := (TB.start w).step ((Below.refl _ _).alloc (Nat.le_refl _) (.cells #[.int .i64 0, .string ⟨#[]⟩, .float .f64 0, .bool false, .bool false, .int .i64 0, .int .i64 0] 24))
 obtain ⟨V, hV⟩ : ∃ V, w.alloc (.cells #[.int .i64 0, .string ⟨#[]⟩, .float .f64 0, .bool false, .bool false, .int .i64 0, .int .i64 0] 24) = V := ⟨_, rfl⟩
 have hs : V.heap.size = w.heap.size + 1 := by rw [← hV]; simp
 rw [hV] at h1 ⊢
 have h2 := heap_alloc_last V (.cells #[.int .i64 0, .string ⟨#[]⟩, .float .f64 0, .bool false, .bool false, .int .i64 0, .int .i64 0] 24)
 rw [hs] at h2
 exact ⟨h1.base (Ae (Below.refl _ _) (Nat.le_refl _) _), setRow_heap _ _ _ _ _ _ h2, by rw [setRow_size]; simp; omega⟩
theorem NB.first (w : World) : ((w.alloc (.cells #[.int .i64 0, .string ⟨#[]⟩, .float .f64 0, .bool false, .bool false, .int .i64 0, .int .i64 0] 24)).alloc (.cells #[.int .i64 0, .string ⟨#[]⟩, .float .f64 0, .bool false, .bool false, .int .i64 0, .int .i64 0] 24)).heap[w.heap.size + 1]? = some (.cells #[.int .i64 0, .string ⟨#[]⟩, .float .f64 0, .bool false, .bool false, .int .i64 0, .int .i64 0] 24 (0, 0)) := by
 have h2 := heap_alloc_last (w.alloc (.cells #[.int .i64 0, .string ⟨#[]⟩, .float .f64 0, .bool false, .bool false, .int .i64 0, .int .i64 0] 24)) (.cells #[.int .i64 0, .string ⟨#[]⟩, .float .f64 0, .bool false, .bool false, .int .i64 0, .int .i64 0] 24)
 rw [show (w.alloc (.cells #[.int .i64 0, .string ⟨#[]⟩, .float .f64 0, .bool false, .bool false, .int .i64 0, .int .i64 0] 24)).heap.size = w.heap.size + 1 by simp] at h2
 exact h2
def Hr (j : Nat) (l : List Nat) (e : Bool) (s : ByteArray) : Option (List Nat × Bool × Nat) := (Jb (l.length == 0) ((us s).drop j)).map fun p => (l ++ p.1, e || p.2.1, j + p.2.2)
def Aev (o : Option (List Nat × Bool × Nat)) : Option Value := o.map fun p => tkV (if Il p.1 = true then 3 else 2) ⟨(bL p.1).toArray⟩ 0 p.2.1 false 0 p.2.2
theorem Zl (b : Bool) (L : List Nat) (j : Nat) : Jb b (L.drop j) =
  if hd0 (L.drop j) = 92 then
   if hd0 (L.drop (j + 1)) = 117 then
    match Bu 0 4 (L.drop (j + 2)) with
    | none => none
    | some v => if Hp b v = true then (Jb false (L.drop (j + 6))).map fun p => (v :: p.1, true, 6 + p.2.2) else none
   else none
  else if Hp b (hd0 (L.drop j)) = true then (Jb false (L.drop (j + 1))).map fun p => (hd0 (L.drop j) :: p.1, p.2.1, 1 + p.2.2)
  else some ([], false, 0) := by
 rcases hd : L.drop j with _ | ⟨c, r⟩
 ·have h0 : hd0 ([] : List Nat) = 0 := rfl
  rw [h0, if_neg (by omega), if_neg (by cases b <;> decide)]
  rfl
 ·obtain ⟨h1, h2⟩ := S4 hd
  have h0 : hd0 (c :: r) = c := rfl
  rw [Acl, h0, h1, h2, ← Hg 3 0, show L.drop (j + 6) = r.drop 5 by rw [← h1, List.drop_drop]]
  try rfl
theorem Y7 {v : Nat} {l : List Nat} (h : Bu 0 4 l = some v) : 4 ≤ l.length ∧ v < 65536 := by
 rw [← Hg 3 0] at h
 exact ⟨G7 h, Mi h (by omega)⟩
theorem NB.all {w wr : World} {kd : Nat} {tx : ByteArray} {e : Bool} {p : Nat} (h : NB w wr kd tx e p) :
  wr.cell? ⟨w.heap.size + 1, 0, none⟩ = some (.int .i64 (kd : Int)) ∧ wr.cell? ⟨w.heap.size + 1, 1, none⟩ = some (.string tx) ∧ wr.cell? ⟨w.heap.size + 1, 2, none⟩ = some (.float .f64 0) ∧ wr.cell? ⟨w.heap.size + 1, 3, none⟩ = some (.bool e) ∧ wr.cell? ⟨w.heap.size + 1, 4, none⟩ = some (.bool false) ∧ wr.cell? ⟨w.heap.size + 1, 5, none⟩ = some (.int .i64 0) ∧ wr.cell? ⟨w.heap.size + 1, 6, none⟩ = some (.int .i64 (p : Int)) := by
 have h := h.nb
 refine ⟨by simp [World.cell?, h], by simp [World.cell?, h], by simp [World.cell?, h], by simp [World.cell?, h], by simp [World.cell?, h], by simp [World.cell?, h], by simp [World.cell?, h]⟩
def NmP (w : World) (s : ByteArray) (j : Nat) (l : List Nat) (e : Bool) (v : Value) (wr : World) (R : Option (List Nat × Bool × Nat)) : Prop :=
 l.length ≤ j ∧ (∀ u ∈ l, u < 65536) ∧ Hr j l e s = R ∧ NB w wr 2 ⟨#[]⟩ e j ∧ Own16 (w.heap.size + 2) l v wr
theorem Acp (s : ByteArray) (k : Nat) (w : World) (hs : s.size ≤ 4398046511104) (hk : k ≤ ln s) :
  Cp 68 #[.string s, .int .i64 k] w fun e w' => e = Em (Aev (Hr k [] false s)) ∧ Below w.heap.size w w' := by
 have hs63 : s.size ≤ maxLen := by unfold maxLen; omega
 obtain ⟨i0, hi, hz0, hz1, hz2⟩ := info_parts Cx
 have hln := Ap s
 have CU := Lh (fun (j : Nat) W => An s j W hs63)
 have CF := Lh (fun (c i : Nat) W => Ab8 c i W)
 have CL := Lh (fun (j : Nat) (hj : j ≤ ln s) W => Tg s (j + 1) W (by omega) (by omega))
 obtain ⟨R, hR⟩ : ∃ R, Hr k [] false s = R := ⟨_, rfl⟩
 rw [hR]
 have HR := Lh hR
 have HL := Lh (show ln s ≤ 2199023255552 by omega)
 have HN0 := Lh (NB.start w k)
 have HN1 := Lh (NB.first w)
 have HK := Lh hk
 clear hs hs63 hR hln hk
 go_enter Tryz.func68, Tryz.ntmps68
 go_wp2_with (first | (refine tkS rfl rfl (w.heap.size + 1) 2 ⟨#[]⟩ 0 false false 0 (k : Int) rfl rfl HN1.out ?_))
 go_frame
 go_loopw [6] (fun lv wr => ∃ (j : Nat) (l : List Nat) (v : Value) (esc : Bool), lv = v ∧ j ≤ ln s ∧ Hid (NmP w s j l esc v wr R)) (fun lv _ => ln s + 1 - lenOf lv)
 case atStart => exact ⟨k, [], _, false, rfl, HK.out, Lh ⟨by simp, by simp, HR.out, HN0.out, Own16.nil _ _⟩⟩
 case round =>
  obtain ⟨j, l, v, esc, hv, hj, HJ⟩ := hrel
  obtain rfl := hv.symm
  obtain ⟨h1, h2, h3, NB0, H⟩ := HJ.out
  have HJ1 := Lh h1
  have HJ2 := Lh h2
  have HJ3 := Lh hj
  have hl1 := H0 H
  obtain ⟨a, cap, rfl⟩ := hl1
  obtain ⟨c0, c1, c3, c6, fz⟩ := NB0.cells
  have f6 := fz 6
  have hjl : (j : Int) ≤ 2199023255552 := by have := HL.out; omega
  have HLT : Hid (lenOf (.slice a l.length cap) ≤ ln s) := Lh (by show l.length ≤ ln s; omega)
  have hll : (l.length : Int) ≤ 2199023255552 := by have := HL.out; omega
  have hsz := NB0.sz
  obtain ⟨c, hc⟩ : ∃ c, hd0 ((us s).drop j) = c := ⟨_, rfl⟩
  have C1 := CU.out j
  rw [hc] at C1
  have C1 := Lh C1
  have h4 : R = (Jb (l.length == 0) ((us s).drop j)).map fun p => (l ++ p.1, esc || p.2.1, j + p.2.2) := by rw [← h3]; rfl
  rw [Zl, hc] at h4
  obtain ⟨b0, hb0⟩ : ∃ b0, (l.length == 0) = b0 := ⟨_, rfl⟩
  have CF1 := fun x W => CF.out x l.length W
  rw [hb0] at h4 CF1
  have hcl : c ≠ 0 → j + 1 ≤ ln s := fun h => by
   have := R8 (L := us s) (k := j) (by rw [hc]; exact h)
   rw [Ab] at this
   exact this
  have hcu : c < 65536 := by
   by_cases h0 : c = 0
   ·omega
   ·obtain ⟨x, g1, g2⟩ := Bw (L := us s) (k := j) (by rw [Ab]; exact hcl h0)
    rw [hc] at g2
    subst g2
    exact J1 s c (List.mem_of_mem_drop (by rw [g1]; simp))
  have CF1 := Lh CF1
  clear fz c0 c1 HJ h1 h2 h3 hj hc hb0
  by_cases h92 : c = 92
  ·rw [if_pos h92] at h4
   subst h92
   have CL1 := CL.out j HJ3.out
   obtain ⟨d, hd⟩ : ∃ d, hd0 ((us s).drop (j + 1)) = d := ⟨_, rfl⟩
   obtain ⟨o, ho⟩ : ∃ o, Bu 0 4 ((us s).drop (j + 2)) = o := ⟨_, rfl⟩
   rw [hd, ho] at h4
   rw [hd, show j + 1 + 1 = j + 2 by omega, ho] at CL1
   by_cases h117 : d = 117
   ·rw [if_pos h117] at h4
    subst h117
    cases o with
    | none =>
     obtain rfl : R = none := h4
     have CL2 := Lh (show ∀ W, Cp 105 #[.string s, .int .i64 ((j : Int) + 1)] W fun e w' => e = .returned (.tuple #[.int .u16 0, .int .i64 ((j + 1 + 5 : Nat) : Int), .bool false]) ∧ ∃ n, w' = W.drewN n from CL1)
     clear CL1 hd ho HR hcl hcu hll hsz
     go_wp2
     go_quiet ((go_at_call 36; exact Calls.quiet_of (C1.out _)))
     go_wp2_with fail
     refine Dm (CL2.out _) fun n1 => ?_
     have T2 := (NB0.draw (nq + n1)).tb
     have HG := Lh T2.bl
     have HB := Lh T2.bw
     clear T2 NB0 H c3 c6 f6
     go_wp2_with (refine tkS rfl rfl w.heap.size 0 ⟨#[]⟩ 0 false false 0 0 rfl rfl HG.out ?_)
     refine tkR rfl rfl HG.out rfl rfl ⟨?_, Ae HB.out (Nat.le_refl _) _⟩
     rfl
    | some x =>
     obtain ⟨g1, g2⟩ := Y7 ho
     rw [List.length_drop, Ab] at g1
     have CL2 := Lh (show ∀ W, Cp 105 #[.string s, .int .i64 ((j : Int) + 1)] W fun e w' => e = .returned (.tuple #[.int .u16 (x : Nat), .int .i64 ((j + 1 + 5 : Nat) : Int), .bool true]) ∧ ∃ n, w' = W.drewN n from CL1)
     have CF2 := CF1.out x
     cases hf : Hp b0 x
     ·rw [hf] at CF2
      have h4 : R = none := by rw [h4]; simp [hf]
      subst h4
      have CF2 := Lh CF2
      clear CL1 hd ho HR hf hcl hcu g1 g2 hsz
      go_wp2
      go_quiet ((go_at_call 36; exact Calls.quiet_of (C1.out _)))
      go_wp2_with fail
      refine Dm (CL2.out _) fun n1 => ?_
      go_wp2_with fail
      refine Sm (CF2.out _) ?_
      have T2 := (NB0.draw (nq + n1)).tb
      have HG := Lh T2.bl
      have HB := Lh T2.bw
      clear T2 NB0 H c3 c6 f6
      go_wp2_with (refine tkS rfl rfl w.heap.size 0 ⟨#[]⟩ 0 false false 0 0 rfl rfl HG.out ?_)
      refine tkR rfl rfl HG.out rfl rfl ⟨?_, Ae HB.out (Nat.le_refl _) _⟩
      rfl
     ·rw [hf] at CF2
      have CF2 := Lh CF2
      have hj6 : j + 6 ≤ ln s := by omega
      have HN : Hid (Hr (j + 6) (l ++ [x]) true s = R) := Lh (by
       rw [h4]
       simp only [hf, if_true]
       unfold Hr
       rw [show ((l ++ [x]).length == 0) = false by simp]
       cases Jb false ((us s).drop (j + 6)) with
       | none => rfl
       | some p => simp; omega)
      have HU : Hid ((l ++ [x]).length ≤ j + 6 ∧ ∀ u ∈ l ++ [x], u < 65536) := Lh ⟨by rw [List.length_append, List.length_singleton]; have := HJ1.out; omega, fun u hu => by
       rcases List.mem_append.1 hu with h | h
       ·exact HJ2.out u h
       ·simp at h; omega⟩
      have HJ6 := Lh hj6
      obtain ⟨q, hq⟩ : ∃ q, j + 6 = q := ⟨_, rfl⟩
      have e6 : j + 1 + 5 = q := by omega
      rw [e6] at CL2
      rw [hq] at HN HU HJ6
      clear CL1 hd ho HR hf h4 hcl hcu g1 g2 hj6 hq e6
      cases esc
      all_goals
       go_wp2
       go_quiet ((go_at_call 36; exact Calls.quiet_of (C1.out _)))
       go_wp2_with fail
       refine Dm (CL2.out _) fun n1 => ?_
       go_wp2_with fail
       refine Sm (CF2.out _) ?_
       go_wp2_with (at_builtin; refine wpList_append_own _ rfl _ _ 57 rfl (w.heap.size + 2) 52 i0 (.int .u16 0) 1 2 Tryz.underlying57 hi hz0 hz1 hz2 rfl (by decide) _ _ _ rfl (World.ownsRow.alloc (w := (wr.drewN (nq + n1))) H _) ⟨(wr.drewN (nq + n1)).heap.size, 0, none⟩ 1 1 [.int .u16 (x : Nat)] rfl rfl ?c1 ?c2 ?c3 ?c4 ?c5 ?_)
       case c1 => exact (cell_one_new _ _ _)
       case c2 => simp [Value.oneCell']
       case c3 => unfold maxLen; omega
       case c4 => omega
       case c5 => simp; omega
       intro v' w1 hown hg _
       have hbw : Below (w.heap.size + 2) wr w1 := ((Ac (Below.refl _ wr) (nq + n1)).alloc (by simpa using hsz) _).grown hg (by simp; omega) (fun j hj => (World.ownsRow.lt H j hj).1)
       have NB1 := NB0.base hbw
       obtain ⟨c0, c1, d3, d6, fz⟩ := NB1.cells
       have f3 := fz 3
       have f6 := fz 6
       have o1 : Own16 (w.heap.size + 2) (l ++ [x]) v' w1 := by simpa [Own16] using hown
       have HX : Hid (NmP w s q (l ++ [x]) true v' ((w1.setCell ⟨w.heap.size + 1, 6, none⟩ (.int .i64 (q : Int))).setCell ⟨w.heap.size + 1, 3, none⟩ (.bool true)) R) := Lh ⟨HU.out.1, HU.out.2, HN.out, (NB1.put6 q).put3 true, H8 (H8 o1 (by omega) _) (by omega) _⟩
       have HW := Lh (H0 o1)
       clear NB0 NB1 hbw hown hg H o1 fz c0 c1 c3 c6
       go_wp2
       go_roundw
       case rel => exact ⟨q, l ++ [x], v', true, rfl, HJ6.out, HX⟩
       case measure =>
        obtain ⟨a', cap', rfl⟩ := HW.out
        have := HLT.out
        simp [lenOf] at this ⊢
        omega
   ·rw [if_neg h117] at h4
    obtain rfl : R = none := h4
    have CL2 := Lh (show ∀ W, Cp 105 #[.string s, .int .i64 ((j : Int) + 1)] W fun e w' => e = .returned (.tuple #[.int .u16 0, .int .i64 0, .bool false]) ∧ ∃ n, w' = W.drewN n from fun W => (CL1 W).mono fun e w' ⟨he, hw⟩ => ⟨by rw [he]; unfold Ai3; rw [if_neg h117], hw⟩)
    clear CL1 hd ho HR h117 hcl hcu hll hsz
    go_wp2
    go_quiet ((go_at_call 36; exact Calls.quiet_of (C1.out _)))
    go_wp2_with fail
    refine Dm (CL2.out _) fun n1 => ?_
    have T2 := (NB0.draw (nq + n1)).tb
    have HG := Lh T2.bl
    have HB := Lh T2.bw
    clear T2 NB0 H c3 c6 f6
    go_wp2_with (refine tkS rfl rfl w.heap.size 0 ⟨#[]⟩ 0 false false 0 0 rfl rfl HG.out ?_)
    refine tkR rfl rfl HG.out rfl rfl ⟨?_, Ae HB.out (Nat.le_refl _) _⟩
    rfl
  ·rw [if_neg h92] at h4
   have g1 : ((c : Int) == 92) = false := by rw [beq_eq_false_iff_ne]; omega
   have CF2 := CF1.out c
   cases hf : Hp b0 c
   ·rw [hf] at CF2
    have CF2 := Lh CF2
    have h5 : R = some (l, esc, j) := by rw [h4]; simp [hf]
    subst h5
    have hlb : 2 * l.length ≤ 140737488355328 := by have := HJ1.out; have := HL.out; have := HJ3.out; omega
    obtain ⟨X, hX⟩ : ∃ X : ByteArray, (⟨(bL l).toArray⟩ : ByteArray) = X := ⟨_, rfl⟩
    have hXu : us X = l := by rw [← hX]; exact Zx HJ2.out
    have hXs : X.size ≤ 17592186044416 := by
     rw [← hX]
     show (bL l).toArray.size ≤ _
     rw [List.size_toArray, Dl]
     have := HJ1.out; have := HL.out; have := HJ3.out; omega
    have CM := Lh (show ∀ W, Own16 (w.heap.size + 2) l (.slice a l.length cap) W → Cp 44 #[.slice a l.length cap] W fun e w' => e = .returned (.string X) ∧ Below W.heap.size W w' from fun W h => by rw [← hX]; exact Vy h HJ2.out hlb)
    have CR := fun W => Oy X W hXs
    rw [hXu] at CR
    have HE : ∀ b : Bool, Il l = b → Hid (Em (Aev (some (l, esc, j))) = .returned (.tuple #[.agg #[.int .i64 (if b = true then 3 else 2), .string X, .float .f64 0, .bool esc, .bool false, .int .i64 0, .int .i64 (j : Int)], .bool true])) := fun b hb => Lh (by
     unfold Em Aev tkV
     rw [Option.map_some, hX, hb]
     cases b <;> rfl)
    cases hr : Il l
    ·rw [hr] at CR
     have HE1 := HE false hr
     have CR := Lh CR
     clear HR hf h4 hcl hcu h92 hX hXu hXs hlb HE hr hsz c3
     go_wp2
     go_quiet ((go_at_call 36; exact Calls.quiet_of (C1.out _)))
     go_wp2_with fail
     refine Sm (CF2.out _) ?_
     go_wp2_with fail
     refine Bm (CM.out _ (show Own16 (w.heap.size + 2) l (.slice a l.length cap) (wr.drewN nq) from H)) fun w1 b1 => ?_
     have NB1 := (NB0.draw nq).step b1
     obtain ⟨c0, c1, c3, d6, fz⟩ := NB1.cells
     have f1 := fz 1
     have NB2 := NB1.put1 X
     obtain ⟨e0, e1, e3, e6, fy⟩ := NB2.cells
     clear b1 c0 c3 d6 fz e0 e3 e6 fy H c6 f6
     go_wp2_with fail
     refine Bm (CR.out _) fun w2 b2 => ?_
     have NB3 := NB2.step b2
     obtain ⟨k0, k1, k2, k3, k4, k5, k6⟩ := NB3.all
     have HG := Lh NB3.tb.bl
     have HB := Lh NB3.tb.bw
     clear b2 NB0 NB1 NB2 NB3 c1 f1 e1
     go_wp2_with (refine tkS rfl rfl w.heap.size 2 X 0 esc false 0 (j : Int) rfl rfl HG.out ?_)
     refine tkR rfl rfl HG.out rfl rfl ⟨?_, Ae HB.out (Nat.le_refl _) _⟩
     exact HE1.out.symm
    ·rw [hr] at CR
     have HE1 := HE true hr
     have CR := Lh CR
     clear HR hf h4 hcl hcu h92 hX hXu hXs hlb HE hr hsz c3
     go_wp2
     go_quiet ((go_at_call 36; exact Calls.quiet_of (C1.out _)))
     go_wp2_with fail
     refine Sm (CF2.out _) ?_
     go_wp2_with fail
     refine Bm (CM.out _ (show Own16 (w.heap.size + 2) l (.slice a l.length cap) (wr.drewN nq) from H)) fun w1 b1 => ?_
     have NB1 := (NB0.draw nq).step b1
     obtain ⟨c0, c1, c3, d6, fz⟩ := NB1.cells
     have f1 := fz 1
     have NB2 := NB1.put1 X
     obtain ⟨e0, e1, e3, e6, fy⟩ := NB2.cells
     clear b1 c0 c3 d6 fz e0 e3 e6 fy H c6 f6
     go_wp2_with fail
     refine Bm (CR.out _) fun w2 b2 => ?_
     have NB3 := NB2.step b2
     obtain ⟨k0, k1, k2, k3, k4, k5, k6⟩ := NB3.all
     have f0 := NB3.cells.2.2.2.2 0
     have NB4 := NB3.put0 3
     have HG := Lh NB4.tb.bl
     have HB := Lh NB4.tb.bw
     clear b2 NB0 NB1 NB2 NB3 NB4 c1 f1 e1
     go_wp2_with (refine tkS rfl rfl w.heap.size 3 X 0 esc false 0 (j : Int) rfl rfl HG.out ?_)
     refine tkR rfl rfl HG.out rfl rfl ⟨?_, Ae HB.out (Nat.le_refl _) _⟩
     exact HE1.out.symm
   ·rw [hf] at CF2
    have CF2 := Lh CF2
    have hj6 : j + 1 ≤ ln s := hcl (by rintro rfl; revert hf; cases b0 <;> decide)
    have HN : Hid (Hr (j + 1) (l ++ [c]) esc s = R) := Lh (by
     rw [h4]
     simp only [hf, if_true]
     unfold Hr
     rw [show ((l ++ [c]).length == 0) = false by simp]
     cases Jb false ((us s).drop (j + 1)) with
     | none => rfl
     | some p => simp; omega)
    have HU : Hid ((l ++ [c]).length ≤ j + 1 ∧ ∀ u ∈ l ++ [c], u < 65536) := Lh ⟨by rw [List.length_append, List.length_singleton]; have := HJ1.out; omega, fun u hu => by
     rcases List.mem_append.1 hu with h | h
     ·exact HJ2.out u h
     ·simp at h; omega⟩
    have HJ6 := Lh hj6
    clear HR hf h4 hcl hcu hj6 h92
    cases esc
    all_goals
     go_wp2
     go_quiet ((go_at_call 36; exact Calls.quiet_of (C1.out _)))
     go_wp2_with fail
     refine Sm (CF2.out _) ?_
     go_wp2_with (at_builtin; refine wpList_append_own _ rfl _ _ 57 rfl (w.heap.size + 2) 52 i0 (.int .u16 0) 1 2 Tryz.underlying57 hi hz0 hz1 hz2 rfl (by decide) _ _ _ rfl (World.ownsRow.alloc (w := (wr.drewN (nq))) H _) ⟨(wr.drewN (nq)).heap.size, 0, none⟩ 1 1 [.int .u16 (c : Nat)] rfl rfl ?c1 ?c2 ?c3 ?c4 ?c5 ?_)
     case c1 => exact (cell_one_new _ _ _)
     case c2 => simp [Value.oneCell']
     case c3 => unfold maxLen; omega
     case c4 => omega
     case c5 => simp; omega
     intro v' w1 hown hg _
     have hbw : Below (w.heap.size + 2) wr w1 := ((Ac (Below.refl _ wr) nq).alloc (by simpa using hsz) _).grown hg (by simp; omega) (fun j hj => (World.ownsRow.lt H j hj).1)
     have NB1 := NB0.base hbw
     obtain ⟨c0, c1, d3, d6, fz⟩ := NB1.cells
     have f3 := fz 3
     have f6 := fz 6
     have o1 : Own16 (w.heap.size + 2) (l ++ [c]) v' w1 := by simpa [Own16] using hown
     have HX := fun (b : Bool) => Lh (show NmP w s (j + 1) (l ++ [c]) b v' ((w1.setCell ⟨w.heap.size + 1, 6, none⟩ (.int .i64 ((j + 1 : Nat) : Int))).setCell ⟨w.heap.size + 1, 3, none⟩ (.bool b)) R ∨ Hr (j + 1) (l ++ [c]) b s ≠ R from if h : Hr (j + 1) (l ++ [c]) b s = R then .inl ⟨HU.out.1, HU.out.2, h, (NB1.put6 (j + 1)).put3 b, H8 (H8 o1 (by omega) _) (by omega) _⟩ else .inr h)
     have HW := Lh (H0 o1)
     clear NB0 NB1 hbw hown hg H o1 fz c0 c1 c3 c6
     go_wp2
     go_roundw
     case rel => exact ⟨j + 1, l ++ [c], v', _, rfl, HJ6.out, Lh ((HX _).out.resolve_right (fun h => h HN.out))⟩
     case measure =>
      obtain ⟨a', cap', rfl⟩ := HW.out
      have := HLT.out
      simp [lenOf] at this ⊢
      omega

end
section
theorem Cj {fn : Func} {t u v x : Tmp} (h : fn.results = #[.tmp t, .tmp u, .tmp v, .tmp x]) (tmps : Array Value) (P : Program) (w : World) :
  (results fn tmps).run P w = .ok (.tuple #[tmps.getD t undef, tmps.getD u undef, tmps.getD v undef, tmps.getD x undef]) w := by
 simp [results, h]
def Ako : Option (List Nat × Bool × Nat) → Ending
 | none => .returned (.tuple #[.string ⟨#[]⟩, .bool false, .int .i64 0, .bool false])
 | some p => .returned (.tuple #[.string ⟨(bL p.1).toArray⟩, .bool p.2.1, .int .i64 (p.2.2 : Nat), .bool true])
def NzP (s : ByteArray) (j : Nat) (l : List Nat) (e : Bool) (R : Option (List Nat × Bool × Nat)) : Prop :=
 l.length ≤ j ∧ (∀ u ∈ l, u < 65536) ∧ Hr j l e s = R
theorem Ab9 (s : ByteArray) (k : Nat) (w : World) (hs : s.size ≤ 4398046511104) (hk : k ≤ ln s) :
  Cp 75 #[.string s, .int .i64 k] w fun e w' => e = Ako (Hr k [] false s) ∧ Below w.heap.size w w' := by
 have hs63 : s.size ≤ maxLen := by unfold maxLen; omega
 obtain ⟨i0, hi, hz0, hz1, hz2⟩ := info_parts Cx
 have hln := Ap s
 have CU := Lh (fun (j : Nat) W => Ce s j W hs63)
 have CL := Lh (fun W => Cw s W hs63)
 have CI := Lh (fun (j : Nat) (hj : j ≤ ln s) W => Ib s ⟨#[92, 117]⟩ j W (by omega) (by omega) (by decide))
 have CH := Lh (show ∀ (j : Nat), j ≤ ln s → ∀ W, Cp 111 #[.string s, .int .i64 ((j : Int) + 2), .int .i64 4] W fun e w' => e = Fe (Bu 0 4 ((us s).drop (j + 2))) ∧ ∃ m, w' = W.drewN m from fun j hj W => Dv s (j + 2) 4 W (by omega) (by omega) (by omega))
 have CP := Lh (fun (c : Nat) W => Acz (c : Int) W)
 have CT := Lh (fun (c : Nat) W => Du (c : Int) W)
 obtain ⟨R, hR⟩ : ∃ R, Hr k [] false s = R := ⟨_, rfl⟩
 rw [hR]
 have HR := Lh hR
 have HL := Lh (show ln s ≤ 2199023255552 by omega)
 have HK := Lh hk
 clear hs hs63 hR hln hk
 go_enter Tryz.func75, Tryz.ntmps75
 go_wp2
 go_loopw [1, 8, 9] (fun av lv ev wr => ∃ (j : Nat) (l : List Nat) (v : Value) (esc : Bool), av = .int .i64 j ∧ lv = v ∧ ev = .bool esc ∧ j ≤ ln s ∧ Hid (NzP s j l esc R) ∧ Own16 w.heap.size l v wr ∧ Below w.heap.size w wr) (fun av _ _ _ => ln s - (intOf av).toNat)
 case atStart => exact ⟨k, [], _, false, rfl, rfl, rfl, HK.out, Lh ⟨by simp, by simp, HR.out⟩, Own16.nil _ _, Below.refl _ _⟩
 case round =>
  obtain ⟨j, l, v, esc, rfl, hv, rfl, hj, HJ, H, hb⟩ := hrel
  obtain rfl := hv.symm
  obtain ⟨h1, h2, h3⟩ := HJ.out
  have HJ1 := Lh h1
  have HJ2 := Lh h2
  have HJ3 := Lh hj
  have hl1 := H0 H
  obtain ⟨a, cap, rfl⟩ := hl1
  have hjl : (j : Int) ≤ 2199023255552 := by have := HL.out; omega
  have hll : (l.length : Int) ≤ 2199023255552 := by have := HL.out; omega
  have hl35 : l.length ≤ 2199023255552 := by omega
  have hsz := hb.size
  have h4 : R = (Jb (l.length == 0) ((us s).drop j)).map fun p => (l ++ p.1, esc || p.2.1, j + p.2.2) := by rw [← h3]; rfl
  have hlb : 2 * l.length ≤ 140737488355328 := by omega
  have CM := Lh (fun W (h : Own16 w.heap.size l (.slice a l.length cap) W) => Pi h HJ2.out hlb)
  clear HJ h1 h2 h3 hlb
  rcases Nat.lt_or_ge j (ln s) with hlt | hge
  rotate_left 1
  ·have hd : (us s).drop j = [] := List.drop_eq_nil_iff.2 (by rw [Ab]; exact hge)
   obtain rfl : R = some (l, esc, j) := by
    rw [h4, hd]
    show (some ([], false, 0)).map _ = _
    simp
   have t1 : ¬ (j : Int) < (ln s : Int) := by omega
   clear hd h4 HR hj
   go_wp2_with fail
   refine Sm (CL.out _) ?_
   go_wp2_with fail
   refine Bm (CM.out _ H) fun w1 b1 => ?_
   have hbw := Aa hb b1
   clear H b1
   go_wp2
   refine bodyPost_ret (Cj rfl _ _ _) rfl ?_
   exact ⟨rfl, hbw⟩
  obtain ⟨c, hd1, hd2⟩ := Bw (L := us s) (k := j) (by rw [Ab]; exact hlt)
  have hcu : c < 65536 := J1 s c (List.mem_of_mem_drop (by rw [hd1]; simp))
  have C1 := CU.out j
  rw [hd1, Ke] at C1
  have C1 := Lh C1
  have hpre : (wdL ⟨#[92, 117]⟩).isPrefixOf ((us s).drop j) = (c == 92 && hd0 ((us s).drop (j + 1)) == 117) := by
   rw [Jp (a := 92) (b := 117) (by omega) (by omega) (us s) j _ rfl, hd2]
  rw [Zl, hd2] at h4
  have HC := Lh hcu
  have HLT := Lh hlt
  have t1 : (j : Int) < (ln s : Int) := by omega
  -- whether a unit fits, in the words of the walk
  have hfit : ∀ x, (Hp (l.length == 0) x = false ∧ ((ptN x = false) ∨ (ptN x = true ∧ stN x = false ∧ ((l.length : Int) == 0) = true))) ∨ (Hp (l.length == 0) x = true ∧ ptN x = true ∧ (((l.length : Int) == 0) = false ∨ (((l.length : Int) == 0) = true ∧ stN x = true))) := by
   intro x
   have hz : ((l.length : Int) == 0) = (l.length == 0) := by
    rw [Bool.eq_iff_iff, beq_iff_eq, beq_iff_eq]; omega
   rw [hz]
   unfold Hp
   cases h0 : (l.length == 0)
   ·rw [if_neg (by simp)]
    cases hp : ptN x
    ·exact .inl ⟨rfl, .inl rfl⟩
    ·exact .inr ⟨rfl, rfl, .inl rfl⟩
   ·rw [if_pos rfl]
    cases hst : stN x
    ·cases hp : ptN x
     ·exact .inl ⟨rfl, .inl rfl⟩
     ·exact .inl ⟨rfl, .inr ⟨rfl, rfl, rfl⟩⟩
    ·exact .inr ⟨rfl, Akj hst, .inr ⟨rfl, rfl⟩⟩
  have HFIT := Lh hfit
  clear hcu hlt hfit hd1 hd2 hj
  have hgo : ∀ (x n : Nat) (e2 : Bool), x < 65536 → Hp (l.length == 0) x = true → j + n ≤ ln s → R = ((Jb false ((us s).drop (j + n))).map fun p => (x :: p.1, e2 || p.2.1, n + p.2.2)).map (fun p => (l ++ p.1, esc || p.2.1, j + p.2.2)) → 1 ≤ n → NzP s (j + n) (l ++ [x]) (esc || e2) R := by
   intro x n e2 hx hf hjn hR hn
   refine ⟨by rw [List.length_append, List.length_singleton]; have := HJ1.out; omega, fun u hu => ?_, ?_⟩
   ·rcases List.mem_append.1 hu with h | h
    ·exact HJ2.out u h
    ·simp at h; omega
   ·rw [hR]
    unfold Hr
    rw [show ((l ++ [x]).length == 0) = false by simp]
    cases Jb false ((us s).drop (j + n)) with
    | none => rfl
    | some p => simp [Bool.or_assoc]; omega
  have HGO := Lh hgo
  clear hgo
  by_cases h92 : c = 92
  ·subst h92
   rw [if_pos rfl] at h4
   have CI1 := CI.out j HJ3.out
   rw [hpre, show ((92 : Nat) == 92) = true from rfl, Bool.true_and] at CI1
   have CH1 := CH.out j HJ3.out
   obtain ⟨o, ho⟩ : ∃ o, Bu 0 4 ((us s).drop (j + 2)) = o := ⟨_, rfl⟩
   rw [ho] at CH1 h4
   obtain ⟨d, hd⟩ : ∃ d, hd0 ((us s).drop (j + 1)) = d := ⟨_, rfl⟩
   rw [hd] at CI1 h4
   by_cases h117 : d = 117
   ·subst h117
    rw [if_pos rfl] at h4
    have CI1 := Lh (show ∀ W, Cp 41 #[.string s, .int .i64 j, .string ⟨#[92, 117]⟩] W fun e w' => e = .returned (.bool true) ∧ ∃ n, w' = W.drewN n from CI1)
    cases o with
    | none =>
     obtain rfl : R = none := h4
     have CH1 := Lh (show ∀ W, Cp 111 #[.string s, .int .i64 ((j : Int) + 2), .int .i64 4] W fun e w' => e = .returned (.tuple #[.int .u16 0, .bool false]) ∧ ∃ m, w' = W.drewN m from CH1)
     clear hpre HR HGO ho hd HFIT
     go_wp2_with fail
     refine Sm (CL.out _) ?_
     go_wp2_with fail
     refine Dm (C1.out _) fun n1 => ?_
     go_wp2_with fail
     refine Dm (CH1.out _) fun n2 => ?_
     go_wp2_with fail
     refine Dm (CI1.out _) fun n3 => ?_
     go_wp2
     refine bodyPost_ret (Cj rfl _ _ _) rfl ?_
     exact ⟨rfl, Ac hb (n1 + n2 + n3)⟩
    | some x =>
     obtain ⟨g1, g2⟩ := Y7 ho
     rw [List.length_drop, Ab] at g1
     have CH1 := Lh (show ∀ W, Cp 111 #[.string s, .int .i64 ((j : Int) + 2), .int .i64 4] W fun e w' => e = .returned (.tuple #[.int .u16 (x : Nat), .bool true]) ∧ ∃ m, w' = W.drewN m from CH1)
     have CP1 := CP.out x
     have CT1 := CT.out x
     have hj6 : j + 6 ≤ ln s := by omega
     rcases HFIT.out x with ⟨hf, hp⟩ | ⟨hf, hp, hq⟩
     ·obtain rfl : R = none := by rw [h4]; simp [hf]
      rcases hp with hp | ⟨hp, hst, hz⟩
      ·rw [show ptB (x : Int) = false from hp] at CP1
       have CP1 := Lh CP1
       clear hpre HR HGO ho hd HFIT CT1 hf hp g1 g2 h4 hj6
       go_wp2_with fail
       refine Sm (CL.out _) ?_
       go_wp2_with fail
       refine Dm (C1.out _) fun n1 => ?_
       go_wp2_with fail
       refine Dm (CH1.out _) fun n2 => ?_
       go_wp2_with fail
       refine Dm (CI1.out _) fun n3 => ?_
       go_wp2_with fail
       refine Sm (CP1.out _) ?_
       go_wp2
       refine bodyPost_ret (Cj rfl _ _ _) rfl ?_
       exact ⟨rfl, Ac hb (n1 + n2 + n3)⟩
      ·rw [show ptB (x : Int) = true from hp] at CP1
       rw [show stB (x : Int) = false from hst] at CT1
       have CP1 := Lh CP1
       have CT1 := Lh CT1
       clear hpre HR HGO ho hd HFIT hf hp hst g1 g2 h4 hj6
       go_wp2_with fail
       refine Sm (CL.out _) ?_
       go_wp2_with fail
       refine Dm (C1.out _) fun n1 => ?_
       go_wp2_with fail
       refine Dm (CH1.out _) fun n2 => ?_
       go_wp2_with fail
       refine Dm (CI1.out _) fun n3 => ?_
       go_wp2_with fail
       refine Sm (CP1.out _) ?_
       go_wp2_with fail
       refine Sm (CT1.out _) ?_
       go_wp2
       refine bodyPost_ret (Cj rfl _ _ _) rfl ?_
       exact ⟨rfl, Ac hb (n1 + n2 + n3)⟩
     ·rw [show ptB (x : Int) = true from hp] at CP1
      have HN : Hid (NzP s (j + 6) (l ++ [x]) true R) := Lh (by
       have := HGO.out x 6 true g2 hf hj6 (by rw [h4]; simp [hf]) (by omega)
       rwa [Bool.or_true] at this)
      have HJ6 := Lh hj6
      obtain ⟨q, hq6⟩ : ∃ q, j + 6 = q := ⟨_, rfl⟩
      have HQ : Hid ((q : Int) = (j : Int) + 6) := Lh (by omega)
      have HQ2 : Hid (j < q) := Lh (by omega)
      rw [hq6] at HN HJ6
      have CP1 := Lh CP1
      rcases hq with hz | ⟨hz, hst⟩
      ·clear hpre HR HGO ho hd HFIT hf hp g1 g2 h4 hj6 hq6 CT1
       go_wp2_with fail
       refine Sm (CL.out _) ?_
       go_wp2_with fail
       refine Dm (C1.out _) fun n1 => ?_
       go_wp2_with fail
       refine Dm (CH1.out _) fun n2 => ?_
       go_wp2_with fail
       refine Dm (CI1.out _) fun n3 => ?_
       go_wp2_with fail
       refine Sm (CP1.out _) ?_
       go_wp2_with fail
       refine Sm (CP1.out _) ?_
       go_wp2_with (at_builtin; refine wpList_append_own _ rfl _ _ 57 rfl (w.heap.size) 52 i0 (.int .u16 0) 1 2 Tryz.underlying57 hi hz0 hz1 hz2 rfl (by decide) _ _ _ rfl (World.ownsRow.alloc (w := (wr.drewN (n1 + n2 + n3))) H _) ⟨(wr.drewN (n1 + n2 + n3)).heap.size, 0, none⟩ 1 1 [.int .u16 (x : Nat)] rfl rfl ?c1 ?c2 ?c3 ?c4 ?c5 ?_)
       case c1 => exact (cell_one_new _ _ _)
       case c2 => simp [Value.oneCell']
       case c3 => unfold maxLen; omega
       case c4 => omega
       case c5 => simp; omega
       intro v' w1 hown hg _
       have hbw : Below w.heap.size w w1 := ((Ac hb (n1 + n2 + n3)).alloc (by simpa using hsz) _).grown hg (by simp; omega) (fun j hj => (World.ownsRow.lt H j hj).1)
       have o2 := Lh (show Own16 w.heap.size (l ++ [x]) v' w1 by simpa [Own16] using hown)
       clear hown hg H hb
       go_wp2
       go_roundw
       case rel => exact ⟨q, l ++ [x], v', true, by first | (rw [HQ.out]; done) | go_num, rfl, rfl, HJ6.out, HN, o2.out, hbw⟩
       case measure => have := HLT.out; have := HQ2.out; have := HQ.out; simp [intOf]; omega
      ·rw [show stB (x : Int) = true from hst] at CT1
       have CT1 := Lh CT1
       clear hpre HR HGO ho hd HFIT hf hp hst g1 g2 h4 hj6 hq6
       go_wp2_with fail
       refine Sm (CL.out _) ?_
       go_wp2_with fail
       refine Dm (C1.out _) fun n1 => ?_
       go_wp2_with fail
       refine Dm (CH1.out _) fun n2 => ?_
       go_wp2_with fail
       refine Dm (CI1.out _) fun n3 => ?_
       go_wp2_with fail
       refine Sm (CP1.out _) ?_
       go_wp2_with fail
       refine Sm (CT1.out _) ?_
       go_wp2_with fail
       refine Sm (CP1.out _) ?_
       go_wp2_with fail
       refine Sm (CT1.out _) ?_
       go_wp2_with (at_builtin; refine wpList_append_own _ rfl _ _ 57 rfl (w.heap.size) 52 i0 (.int .u16 0) 1 2 Tryz.underlying57 hi hz0 hz1 hz2 rfl (by decide) _ _ _ rfl (World.ownsRow.alloc (w := (wr.drewN (n1 + n2 + n3))) H _) ⟨(wr.drewN (n1 + n2 + n3)).heap.size, 0, none⟩ 1 1 [.int .u16 (x : Nat)] rfl rfl ?c1 ?c2 ?c3 ?c4 ?c5 ?_)
       case c1 => exact (cell_one_new _ _ _)
       case c2 => simp [Value.oneCell']
       case c3 => unfold maxLen; omega
       case c4 => omega
       case c5 => simp; omega
       intro v' w1 hown hg _
       have hbw : Below w.heap.size w w1 := ((Ac hb (n1 + n2 + n3)).alloc (by simpa using hsz) _).grown hg (by simp; omega) (fun j hj => (World.ownsRow.lt H j hj).1)
       have o2 := Lh (show Own16 w.heap.size (l ++ [x]) v' w1 by simpa [Own16] using hown)
       clear hown hg H hb
       go_wp2
       go_roundw
       case rel => exact ⟨q, l ++ [x], v', true, by first | (rw [HQ.out]; done) | go_num, rfl, rfl, HJ6.out, HN, o2.out, hbw⟩
       case measure => have := HLT.out; have := HQ2.out; have := HQ.out; simp [intOf]; omega
   ·rw [if_neg h117] at h4
    obtain rfl : R = none := h4
    have e1 : (d == 117) = false := by rw [beq_eq_false_iff_ne]; exact h117
    rw [e1] at CI1
    have CI1 := Lh CI1
    cases o with
    | none =>
     have CH1 := Lh (show ∀ W, Cp 111 #[.string s, .int .i64 ((j : Int) + 2), .int .i64 4] W fun e w' => e = .returned (.tuple #[.int .u16 0, .bool false]) ∧ ∃ m, w' = W.drewN m from CH1)
     clear hpre HR HGO ho hd HFIT e1 h117
     go_wp2_with fail
     refine Sm (CL.out _) ?_
     go_wp2_with fail
     refine Dm (C1.out _) fun n1 => ?_
     go_wp2_with fail
     refine Dm (CH1.out _) fun n2 => ?_
     go_wp2_with fail
     refine Dm (CI1.out _) fun n3 => ?_
     go_wp2
     refine bodyPost_ret (Cj rfl _ _ _) rfl ?_
     exact ⟨rfl, Ac hb (n1 + n2 + n3)⟩
    | some x =>
     have CH1 := Lh (show ∀ W, Cp 111 #[.string s, .int .i64 ((j : Int) + 2), .int .i64 4] W fun e w' => e = .returned (.tuple #[.int .u16 (x : Nat), .bool true]) ∧ ∃ m, w' = W.drewN m from CH1)
     clear hpre HR HGO ho hd HFIT e1 h117
     go_wp2_with fail
     refine Sm (CL.out _) ?_
     go_wp2_with fail
     refine Dm (C1.out _) fun n1 => ?_
     go_wp2_with fail
     refine Dm (CH1.out _) fun n2 => ?_
     go_wp2_with fail
     refine Dm (CI1.out _) fun n3 => ?_
     go_wp2
     refine bodyPost_ret (Cj rfl _ _ _) rfl ?_
     exact ⟨rfl, Ac hb (n1 + n2 + n3)⟩
  ·rw [if_neg h92] at h4
   have g1 : ((c : Int) == 92) = false := by rw [beq_eq_false_iff_ne]; omega
   have CP1 := CP.out c
   have CT1 := CT.out c
   rcases HFIT.out c with ⟨hf, hp⟩ | ⟨hf, hp, hq⟩
   ·obtain rfl : R = some (l, esc, j) := by rw [h4]; simp [hf]
    rcases hp with hp | ⟨hp, hst, hz⟩
    ·rw [show ptB (c : Int) = false from hp] at CP1
     have CP1 := Lh CP1
     clear hpre HR HGO HFIT CT1 hf hp h4 h92
     go_wp2_with fail
     refine Sm (CL.out _) ?_
     go_wp2_with fail
     refine Dm (C1.out _) fun n1 => ?_
     go_wp2_with fail
     refine Sm (CP1.out _) ?_
     go_wp2_with fail
     refine Bm (CM.out _ (show Own16 w.heap.size l (.slice a l.length cap) (wr.drewN n1) from H)) fun w1 b1 => ?_
     have hbw := Aa (Ac hb n1) b1
     clear H b1
     go_wp2
     refine bodyPost_ret (Cj rfl _ _ _) rfl ?_
     exact ⟨rfl, hbw⟩
    ·rw [show ptB (c : Int) = true from hp] at CP1
     rw [show stB (c : Int) = false from hst] at CT1
     have CP1 := Lh CP1
     have CT1 := Lh CT1
     clear hpre HR HGO HFIT hf hp hst h4 h92
     go_wp2_with fail
     refine Sm (CL.out _) ?_
     go_wp2_with fail
     refine Dm (C1.out _) fun n1 => ?_
     go_wp2_with fail
     refine Sm (CP1.out _) ?_
     go_wp2_with fail
     refine Sm (CT1.out _) ?_
     go_wp2_with fail
     refine Bm (CM.out _ (show Own16 w.heap.size l (.slice a l.length cap) (wr.drewN n1) from H)) fun w1 b1 => ?_
     have hbw := Aa (Ac hb n1) b1
     clear H b1
     go_wp2
     refine bodyPost_ret (Cj rfl _ _ _) rfl ?_
     exact ⟨rfl, hbw⟩
   ·rw [show ptB (c : Int) = true from hp] at CP1
    have HN : Hid (NzP s (j + 1) (l ++ [c]) esc R) := Lh (by
     have := HGO.out c 1 false HC.out hf HLT.out (by rw [h4]; simp [hf]) (by omega)
     rwa [Bool.or_false] at this)
    have CP1 := Lh CP1
    rcases hq with hz | ⟨hz, hst⟩
    ·clear hpre HR HGO HFIT hf hp h4 CT1 h92
     go_wp2_with fail
     refine Sm (CL.out _) ?_
     go_wp2_with fail
     refine Dm (C1.out _) fun n1 => ?_
     go_wp2_with fail
     refine Sm (CP1.out _) ?_
     go_wp2_with (at_builtin; refine wpList_append_own _ rfl _ _ 57 rfl (w.heap.size) 52 i0 (.int .u16 0) 1 2 Tryz.underlying57 hi hz0 hz1 hz2 rfl (by decide) _ _ _ rfl (World.ownsRow.alloc (w := (wr.drewN (n1))) H _) ⟨(wr.drewN (n1)).heap.size, 0, none⟩ 1 1 [.int .u16 (c : Nat)] rfl rfl ?c1 ?c2 ?c3 ?c4 ?c5 ?_)
     case c1 => exact (cell_one_new _ _ _)
     case c2 => simp [Value.oneCell']
     case c3 => unfold maxLen; omega
     case c4 => omega
     case c5 => simp; omega
     intro v' w1 hown hg _
     have hbw : Below w.heap.size w w1 := ((Ac hb n1).alloc (by simpa using hsz) _).grown hg (by simp; omega) (fun j hj => (World.ownsRow.lt H j hj).1)
     have o2 := Lh (show Own16 w.heap.size (l ++ [c]) v' w1 by simpa [Own16] using hown)
     clear hown hg H hb
     go_wp2
     go_roundw
     case rel => exact ⟨j + 1, l ++ [c], v', esc, by go_num, rfl, rfl, HLT.out, HN, o2.out, hbw⟩
     case measure => have := HLT.out; simp [intOf]; omega
    ·rw [show stB (c : Int) = true from hst] at CT1
     have CT1 := Lh CT1
     clear hpre HR HGO HFIT hf hp hst h4 h92
     go_wp2_with fail
     refine Sm (CL.out _) ?_
     go_wp2_with fail
     refine Dm (C1.out _) fun n1 => ?_
     go_wp2_with fail
     refine Sm (CP1.out _) ?_
     go_wp2_with fail
     refine Sm (CT1.out _) ?_
     go_wp2_with (at_builtin; refine wpList_append_own _ rfl _ _ 57 rfl (w.heap.size) 52 i0 (.int .u16 0) 1 2 Tryz.underlying57 hi hz0 hz1 hz2 rfl (by decide) _ _ _ rfl (World.ownsRow.alloc (w := (wr.drewN (n1))) H _) ⟨(wr.drewN (n1)).heap.size, 0, none⟩ 1 1 [.int .u16 (c : Nat)] rfl rfl ?c1 ?c2 ?c3 ?c4 ?c5 ?_)
     case c1 => exact (cell_one_new _ _ _)
     case c2 => simp [Value.oneCell']
     case c3 => unfold maxLen; omega
     case c4 => omega
     case c5 => simp; omega
     intro v' w1 hown hg _
     have hbw : Below w.heap.size w w1 := ((Ac hb n1).alloc (by simpa using hsz) _).grown hg (by simp; omega) (fun j hj => (World.ownsRow.lt H j hj).1)
     have o2 := Lh (show Own16 w.heap.size (l ++ [c]) v' w1 by simpa [Own16] using hown)
     clear hown hg H hb
     go_wp2
     go_roundw
     case rel => exact ⟨j + 1, l ++ [c], v', esc, by go_num, rfl, rfl, HLT.out, HN, o2.out, hbw⟩
     case measure => have := HLT.out; simp [intOf]; omega

end
section
theorem Vc (s : ByteArray) (k : Nat) (w : World) (hs : s.size ≤ 140737488355328) (hk : k ≤ ln s) :
  Cp 71 #[.string s, .int .i64 k] w fun e w' => e = Em (nmV k ((us s).drop k)) ∧ Below w.heap.size w w' := by
 have hs63 : s.size ≤ maxLen := by unfold maxLen; omega
 have hln := Ap s
 obtain ⟨l, hl⟩ : ∃ l, (us s).drop k = l := ⟨_, rfl⟩
 obtain ⟨n, hn⟩ : ∃ n, Ds l = n := ⟨_, rfl⟩
 have hkn : k + n ≤ ln s := by
  have h1 := Ahd l
  have h2 := congrArg List.length hl
  rw [List.length_drop, Ab] at h2
  omega
 have C1 := fun W => Nc s k W hs hk
 rw [hl, hn] at C1
 have C1 := Lh C1
 obtain ⟨X, hX⟩ : ∃ X, slS s (k : Int) ((k + n : Nat) : Int) = X := ⟨_, rfl⟩
 have hu : us X = l.take n := by
  have h := Xq s k (k + n) hkn
  rw [hX, hl, Nat.add_sub_cancel_left] at h
  exact h
 have hXs : X.size ≤ 140737488355328 := by
  have h2 := Qn s k n hkn
  rw [hX] at h2
  rw [h2]
  show (bL _).toArray.size ≤ _
  rw [List.size_toArray, Dl, List.length_take]
  omega
 have C2 := fun W => Pn s (k : Int) ((k + n : Nat) : Int) W hs63
 rw [hX] at C2
 have C2 := Lh C2
 have C3 := fun W => Sf X W hXs
 have hna := Ad5 l
 rw [hn] at hna
 rw [hu, Yx hna] at C3
 have C3 := Lh C3
 obtain ⟨d, hd⟩ : ∃ d, hd0 ((us s).drop (k + n)) = d := ⟨_, rfl⟩
 have C4 := fun W => An s (k + n) W hs63
 rw [hd] at C4
 have C4 := Lh C4
 have C5 := Lh (fun W => Aiz d W)
 have hO : Ja l n = (Hd (l.take n) && !(ptN d || d == 92)) := by
  unfold Ja
  rw [← hd, ← hl, List.drop_drop]
 rw [hl]
 have hV : nmV k l = if (Hd (l.take n) && !(ptN d || d == 92)) = true then some (tkV 5 ⟨#[]⟩ (Jv (l.take n)) false false 0 (k + n)) else none := by
  unfold nmV
  rw [hn, hO]
 rw [hV]
 have T0 := Lh (TB.start w)
 obtain ⟨F, hF⟩ : ∃ F, Jv (l.take n) = F := ⟨_, rfl⟩
 obtain ⟨m, hm⟩ : ∃ m, k + n = m := ⟨_, rfl⟩
 rw [hF] at C3 ⊢
 rw [hm] at C1 C2 C4 ⊢
 clear hln hX hu hXs hna hd hO hV hl hn hF hs63 hs hkn hm
 cases hb : Hd (l.take n)
 ·rw [hb] at C3
  rw [Bool.false_and, if_neg (by simp)]
  clear hb
  go_enter Tryz.func71, Tryz.ntmps71
  go_wp2_with fail
  refine Dm (C1.out _) fun n1 => ?_
  go_wp2_with fail
  refine Sm (C2.out _) ?_
  go_wp2_with fail
  refine Bm (C3.out _) fun w1 b1 => ?_
  have T1 := (T0.out.draw n1).step b1
  go_wp2_with fail
  refine Dm (C4.out _) fun n4 => ?_
  have T2 := T1.draw n4
  have HG := Lh T2.bl
  have HB := Lh T2.bw
  clear T1 T2 b1
  go_wp2_with (refine tkS rfl rfl w.heap.size 0 ⟨#[]⟩ 0 false false 0 0 rfl rfl HG.out ?_)
  refine tkR rfl rfl HG.out rfl rfl ⟨?_, Ae HB.out (Nat.le_refl _) _⟩
  rfl
 ·rw [hb] at C3
  rw [Bool.true_and]
  clear hb
  cases hp : ptN d
  ·rw [hp] at C5
   clear hp
   by_cases h92 : d = 92
   ·subst h92
    rw [if_neg (by simp)]
    go_enter Tryz.func71, Tryz.ntmps71
    go_wp2_with fail
    refine Dm (C1.out _) fun n1 => ?_
    go_wp2_with fail
    refine Sm (C2.out _) ?_
    go_wp2_with fail
    refine Bm (C3.out _) fun w1 b1 => ?_
    have T1 := (T0.out.draw n1).step b1
    go_wp2_with fail
    refine Dm (C4.out _) fun n4 => ?_
    have T2 := T1.draw n4
    go_wp2_with fail
    refine Sm (C5.out _) ?_
    have HG := Lh T2.bl
    have HB := Lh T2.bw
    clear T1 T2 b1
    go_wp2_with (refine tkS rfl rfl w.heap.size 0 ⟨#[]⟩ 0 false false 0 0 rfl rfl HG.out ?_)
    refine tkR rfl rfl HG.out rfl rfl ⟨?_, Ae HB.out (Nat.le_refl _) _⟩
    rfl
   ·have g1 : ¬ ((d : Int) = 92) := by omega
    rw [if_pos (by simpa using h92)]
    clear h92
    go_enter Tryz.func71, Tryz.ntmps71
    go_wp2_with fail
    refine Dm (C1.out _) fun n1 => ?_
    go_wp2_with fail
    refine Sm (C2.out _) ?_
    go_wp2_with fail
    refine Bm (C3.out _) fun w1 b1 => ?_
    have T1 := (T0.out.draw n1).step b1
    go_wp2_with fail
    refine Dm (C4.out _) fun n4 => ?_
    have T2 := T1.draw n4
    go_wp2_with fail
    refine Sm (C5.out _) ?_
    have HG := Lh T2.bl
    have HB := Lh T2.bw
    clear T1 T2 b1
    go_wp2_with (refine tkS rfl rfl w.heap.size 5 ⟨#[]⟩ F false false 0 (m : Int) rfl rfl HG.out ?_)
    refine tkR rfl rfl HG.out rfl rfl ⟨?_, Ae HB.out (Nat.le_refl _) _⟩
    rfl
  ·rw [hp] at C5
   clear hp
   rw [if_neg (by simp)]
   go_enter Tryz.func71, Tryz.ntmps71
   go_wp2_with fail
   refine Dm (C1.out _) fun n1 => ?_
   go_wp2_with fail
   refine Sm (C2.out _) ?_
   go_wp2_with fail
   refine Bm (C3.out _) fun w1 b1 => ?_
   have T1 := (T0.out.draw n1).step b1
   go_wp2_with fail
   refine Dm (C4.out _) fun n4 => ?_
   have T2 := T1.draw n4
   go_wp2_with fail
   refine Sm (C5.out _) ?_
   have HG := Lh T2.bl
   have HB := Lh T2.bw
   clear T1 T2 b1
   go_wp2_with (refine tkS rfl rfl w.heap.size 0 ⟨#[]⟩ 0 false false 0 0 rfl rfl HG.out ?_)
   refine tkR rfl rfl HG.out rfl rfl ⟨?_, Ae HB.out (Nat.le_refl _) _⟩
   rfl

end
section
def E6 (k : Nat) (o : Option (Nat × List Nat × Nat × Bool × Nat)) : Option Value := o.map fun p => tkV p.1 ⟨(bL p.2.1).toArray⟩ p.2.2.1 p.2.2.2.1 false 0 (k + p.2.2.2.2)
theorem Mn (u : Nat) (w : World) : Cq 67 #[.int .u16 u] (.bool (stN u)) w := La u w
theorem Yj (s : ByteArray) (k c : Nat) (w : World) (o : Option (Nat × List Nat × Nat × Bool × Nat)) (_hkl : (k : Int) ≤ 70368744177664) (h : (stN c || c == 92) = true)
  (C1 : Hid (∀ W, Cp 66 #[.string s, .int .i64 k] W fun e w' => e = .returned (.tuple #[.int .u16 (c : Nat), .bool true]) ∧ ∃ n, w' = W.drewN n))
  (CC : Hid (∀ W, Cp 68 #[.string s, .int .i64 k] W fun e w' => e = Em (E6 k o) ∧ Below W.heap.size W w')) :
  Cp 37 #[.string s, .int .i64 k] w fun e w' => e = Em (E6 k o) ∧ Below w.heap.size w w' := by
 have CS := Lh (fun W => Mn c W)
 have CD := Lh (fun W => Au c W)
 have T0 := Lh (TB.start w)
 cases hst : stN c
 ·have h92 : c = 92 := by rw [hst] at h; simpa using h
  rw [hst] at CS
  subst h92
  clear h hst CD
  cases o with
  | none =>
   have CC := Lh (show ∀ W, Cp 68 #[.string s, .int .i64 k] W fun e w' => e = .returned (.tuple #[.agg #[.int .i64 0, .string ⟨#[]⟩, .float .f64 0, .bool false, .bool false, .int .i64 0, .int .i64 0], .bool false]) ∧ Below W.heap.size W w' from CC.out)
   go_enter Tryz.func37, Tryz.ntmps37
   go_wp2_with fail
   refine Dm (C1.out _) fun n1 => ?_
   go_wp2_with fail
   refine Sm (CS.out _) ?_
   go_wp2_with fail
   refine Bm (CC.out _) fun w1 b1 => ?_
   have T1 := (T0.out.draw (n1)).step b1
   have HG := Lh T1.bl
   have HB := Lh T1.bw
   clear T1 b1
   go_wp2_with (refine tkS rfl rfl w.heap.size 0 ⟨#[]⟩ 0 false false 0 0 rfl rfl HG.out ?_)
   refine tkR rfl rfl HG.out rfl rfl ⟨?_, Ae HB.out (Nat.le_refl _) _⟩
   rfl
  | some p =>
   have CC := Lh (show ∀ W, Cp 68 #[.string s, .int .i64 k] W fun e w' => e = .returned (.tuple #[.agg #[.int .i64 ((p.1 : Nat) : Int), .string ⟨(bL p.2.1).toArray⟩, .float .f64 p.2.2.1, .bool p.2.2.2.1, .bool false, .int .i64 0, .int .i64 ((k + p.2.2.2.2 : Nat) : Int)], .bool true]) ∧ Below W.heap.size W w' from CC.out)
   have HE : Hid (Em (E6 k (some p)) = .returned (.tuple #[.agg #[.int .i64 ((p.1 : Nat) : Int), .string ⟨(bL p.2.1).toArray⟩, .float .f64 p.2.2.1, .bool p.2.2.2.1, .bool false, .int .i64 0, .int .i64 ((k + p.2.2.2.2 : Nat) : Int)], .bool true])) := Lh rfl
   obtain ⟨kd, hkd⟩ : ∃ kd : Int, ((p.1 : Nat) : Int) = kd := ⟨_, rfl⟩
   obtain ⟨tx, htx⟩ : ∃ tx : ByteArray, (⟨(bL p.2.1).toArray⟩ : ByteArray) = tx := ⟨_, rfl⟩
   obtain ⟨xx, hxx⟩ : ∃ xx, p.2.2.1 = xx := ⟨_, rfl⟩
   obtain ⟨es, hes⟩ : ∃ es, p.2.2.2.1 = es := ⟨_, rfl⟩
   obtain ⟨fi, hfi⟩ : ∃ fi : Int, ((k + p.2.2.2.2 : Nat) : Int) = fi := ⟨_, rfl⟩
   rw [hkd, htx, hxx, hes, hfi] at CC HE
   clear hkd htx hxx hes hfi
   go_enter Tryz.func37, Tryz.ntmps37
   go_wp2_with fail
   refine Dm (C1.out _) fun n1 => ?_
   go_wp2_with fail
   refine Sm (CS.out _) ?_
   go_wp2_with fail
   refine Bm (CC.out _) fun w1 b1 => ?_
   have T1 := (T0.out.draw (n1)).step b1
   have HG := Lh T1.bl
   have HB := Lh T1.bw
   clear T1 b1
   go_wp2_with (refine tkS rfl rfl w.heap.size (kd : Int) tx xx es false 0 fi rfl rfl HG.out ?_)
   refine tkR rfl rfl HG.out rfl rfl ⟨?_, Ae HB.out (Nat.le_refl _) _⟩
   exact HE.out.symm
 ·rw [hst] at CS
  clear h hst CD
  cases o with
  | none =>
   have CC := Lh (show ∀ W, Cp 68 #[.string s, .int .i64 k] W fun e w' => e = .returned (.tuple #[.agg #[.int .i64 0, .string ⟨#[]⟩, .float .f64 0, .bool false, .bool false, .int .i64 0, .int .i64 0], .bool false]) ∧ Below W.heap.size W w' from CC.out)
   go_enter Tryz.func37, Tryz.ntmps37
   go_wp2_with fail
   refine Dm (C1.out _) fun n1 => ?_
   go_wp2_with fail
   refine Sm (CS.out _) ?_
   go_wp2_with fail
   refine Bm (CC.out _) fun w1 b1 => ?_
   have T1 := (T0.out.draw (n1)).step b1
   have HG := Lh T1.bl
   have HB := Lh T1.bw
   clear T1 b1
   go_wp2_with (refine tkS rfl rfl w.heap.size 0 ⟨#[]⟩ 0 false false 0 0 rfl rfl HG.out ?_)
   refine tkR rfl rfl HG.out rfl rfl ⟨?_, Ae HB.out (Nat.le_refl _) _⟩
   rfl
  | some p =>
   have CC := Lh (show ∀ W, Cp 68 #[.string s, .int .i64 k] W fun e w' => e = .returned (.tuple #[.agg #[.int .i64 ((p.1 : Nat) : Int), .string ⟨(bL p.2.1).toArray⟩, .float .f64 p.2.2.1, .bool p.2.2.2.1, .bool false, .int .i64 0, .int .i64 ((k + p.2.2.2.2 : Nat) : Int)], .bool true]) ∧ Below W.heap.size W w' from CC.out)
   have HE : Hid (Em (E6 k (some p)) = .returned (.tuple #[.agg #[.int .i64 ((p.1 : Nat) : Int), .string ⟨(bL p.2.1).toArray⟩, .float .f64 p.2.2.1, .bool p.2.2.2.1, .bool false, .int .i64 0, .int .i64 ((k + p.2.2.2.2 : Nat) : Int)], .bool true])) := Lh rfl
   obtain ⟨kd, hkd⟩ : ∃ kd : Int, ((p.1 : Nat) : Int) = kd := ⟨_, rfl⟩
   obtain ⟨tx, htx⟩ : ∃ tx : ByteArray, (⟨(bL p.2.1).toArray⟩ : ByteArray) = tx := ⟨_, rfl⟩
   obtain ⟨xx, hxx⟩ : ∃ xx, p.2.2.1 = xx := ⟨_, rfl⟩
   obtain ⟨es, hes⟩ : ∃ es, p.2.2.2.1 = es := ⟨_, rfl⟩
   obtain ⟨fi, hfi⟩ : ∃ fi : Int, ((k + p.2.2.2.2 : Nat) : Int) = fi := ⟨_, rfl⟩
   rw [hkd, htx, hxx, hes, hfi] at CC HE
   clear hkd htx hxx hes hfi
   go_enter Tryz.func37, Tryz.ntmps37
   go_wp2_with fail
   refine Dm (C1.out _) fun n1 => ?_
   go_wp2_with fail
   refine Sm (CS.out _) ?_
   go_wp2_with fail
   refine Bm (CC.out _) fun w1 b1 => ?_
   have T1 := (T0.out.draw (n1)).step b1
   have HG := Lh T1.bl
   have HB := Lh T1.bw
   clear T1 b1
   go_wp2_with (refine tkS rfl rfl w.heap.size (kd : Int) tx xx es false 0 fi rfl rfl HG.out ?_)
   refine tkR rfl rfl HG.out rfl rfl ⟨?_, Ae HB.out (Nat.le_refl _) _⟩
   exact HE.out.symm
theorem Sr (s : ByteArray) (k c : Nat) (w : World) (o : Option (Nat × List Nat × Nat × Bool × Nat)) (_hkl : (k : Int) ≤ 70368744177664) (h : c = 34 ∨ c = 39)
  (C1 : Hid (∀ W, Cp 66 #[.string s, .int .i64 k] W fun e w' => e = .returned (.tuple #[.int .u16 (c : Nat), .bool true]) ∧ ∃ n, w' = W.drewN n))
  (CC : Hid (∀ W, Cp 69 #[.string s, .int .i64 k] W fun e w' => e = Em (E6 k o) ∧ Below W.heap.size W w')) :
  Cp 37 #[.string s, .int .i64 k] w fun e w' => e = Em (E6 k o) ∧ Below w.heap.size w w' := by
 have CS := Lh (fun W => Mn c W)
 have CD := Lh (fun W => Au c W)
 have T0 := Lh (TB.start w)
 rcases h with rfl | rfl
 all_goals
  have CS := Lh (show ∀ W, Cp 67 #[.int .u16 _] W fun e w' => e = .returned (.bool false) ∧ W = w' from CS.out)
  clear CD
  cases o with
  | none =>
   have CC := Lh (show ∀ W, Cp 69 #[.string s, .int .i64 k] W fun e w' => e = .returned (.tuple #[.agg #[.int .i64 0, .string ⟨#[]⟩, .float .f64 0, .bool false, .bool false, .int .i64 0, .int .i64 0], .bool false]) ∧ Below W.heap.size W w' from CC.out)
   go_enter Tryz.func37, Tryz.ntmps37
   go_wp2_with fail
   refine Dm (C1.out _) fun n1 => ?_
   go_wp2_with fail
   refine Sm (CS.out _) ?_
   go_wp2_with fail
   refine Bm (CC.out _) fun w1 b1 => ?_
   have T1 := (T0.out.draw (n1)).step b1
   have HG := Lh T1.bl
   have HB := Lh T1.bw
   clear T1 b1
   go_wp2_with (refine tkS rfl rfl w.heap.size 0 ⟨#[]⟩ 0 false false 0 0 rfl rfl HG.out ?_)
   refine tkR rfl rfl HG.out rfl rfl ⟨?_, Ae HB.out (Nat.le_refl _) _⟩
   rfl
  | some p =>
   have CC := Lh (show ∀ W, Cp 69 #[.string s, .int .i64 k] W fun e w' => e = .returned (.tuple #[.agg #[.int .i64 ((p.1 : Nat) : Int), .string ⟨(bL p.2.1).toArray⟩, .float .f64 p.2.2.1, .bool p.2.2.2.1, .bool false, .int .i64 0, .int .i64 ((k + p.2.2.2.2 : Nat) : Int)], .bool true]) ∧ Below W.heap.size W w' from CC.out)
   have HE : Hid (Em (E6 k (some p)) = .returned (.tuple #[.agg #[.int .i64 ((p.1 : Nat) : Int), .string ⟨(bL p.2.1).toArray⟩, .float .f64 p.2.2.1, .bool p.2.2.2.1, .bool false, .int .i64 0, .int .i64 ((k + p.2.2.2.2 : Nat) : Int)], .bool true])) := Lh rfl
   obtain ⟨kd, hkd⟩ : ∃ kd : Int, ((p.1 : Nat) : Int) = kd := ⟨_, rfl⟩
   obtain ⟨tx, htx⟩ : ∃ tx : ByteArray, (⟨(bL p.2.1).toArray⟩ : ByteArray) = tx := ⟨_, rfl⟩
   obtain ⟨xx, hxx⟩ : ∃ xx, p.2.2.1 = xx := ⟨_, rfl⟩
   obtain ⟨es, hes⟩ : ∃ es, p.2.2.2.1 = es := ⟨_, rfl⟩
   obtain ⟨fi, hfi⟩ : ∃ fi : Int, ((k + p.2.2.2.2 : Nat) : Int) = fi := ⟨_, rfl⟩
   rw [hkd, htx, hxx, hes, hfi] at CC HE
   clear hkd htx hxx hes hfi
   go_enter Tryz.func37, Tryz.ntmps37
   go_wp2_with fail
   refine Dm (C1.out _) fun n1 => ?_
   go_wp2_with fail
   refine Sm (CS.out _) ?_
   go_wp2_with fail
   refine Bm (CC.out _) fun w1 b1 => ?_
   have T1 := (T0.out.draw (n1)).step b1
   have HG := Lh T1.bl
   have HB := Lh T1.bw
   clear T1 b1
   go_wp2_with (refine tkS rfl rfl w.heap.size (kd : Int) tx xx es false 0 fi rfl rfl HG.out ?_)
   refine tkR rfl rfl HG.out rfl rfl ⟨?_, Ae HB.out (Nat.le_refl _) _⟩
   exact HE.out.symm
theorem Rz (s : ByteArray) (k c : Nat) (w : World) (o : Option (Nat × List Nat × Nat × Bool × Nat)) (hkl : (k : Int) ≤ 70368744177664) (hst : stN c = false) (h92 : c ≠ 92) (h34 : c ≠ 34) (h39 : c ≠ 39) (d : Nat) (CU : Hid (∀ W, Cp 36 #[.string s, .int .i64 ((k : Int) + 1)] W fun e w' => e = .returned (.int .u16 (d : Nat)) ∧ ∃ n, w' = W.drewN n)) (h : (Ah c || (c == 46 && Ah d)) = true)
  (C1 : Hid (∀ W, Cp 66 #[.string s, .int .i64 k] W fun e w' => e = .returned (.tuple #[.int .u16 (c : Nat), .bool true]) ∧ ∃ n, w' = W.drewN n))
  (CC : Hid (∀ W, Cp 71 #[.string s, .int .i64 k] W fun e w' => e = Em (E6 k o) ∧ Below W.heap.size W w')) :
  Cp 37 #[.string s, .int .i64 k] w fun e w' => e = Em (E6 k o) ∧ Below w.heap.size w w' := by
 have CS := Lh (fun W => Mn c W)
 have CD := Lh (fun W => Au c W)
 have T0 := Lh (TB.start w)
 rw [hst] at CS
 have g1 : ((c : Int) == 92) = false := by rw [beq_eq_false_iff_ne]; omega
 have g2 : ((c : Int) == 34) = false := by rw [beq_eq_false_iff_ne]; omega
 have g3 : ((c : Int) == 39) = false := by rw [beq_eq_false_iff_ne]; omega
 clear hst h92 h34 h39
 cases hd : Ah c
 ·rw [hd] at CD h
  have h46 : c = 46 ∧ Ah d = true := by simpa using h
  have CD2 := fun W => Au d W
  rw [h46.2] at CD2
  have CD2 := Lh CD2
  have h46 := h46.1
  subst h46
  clear h hd g1 g2 g3
  cases o with
  | none =>
   have CC := Lh (show ∀ W, Cp 71 #[.string s, .int .i64 k] W fun e w' => e = .returned (.tuple #[.agg #[.int .i64 0, .string ⟨#[]⟩, .float .f64 0, .bool false, .bool false, .int .i64 0, .int .i64 0], .bool false]) ∧ Below W.heap.size W w' from CC.out)
   go_enter Tryz.func37, Tryz.ntmps37
   go_wp2_with fail
   refine Dm (C1.out _) fun n1 => ?_
   go_wp2_with fail
   refine Sm (CS.out _) ?_
   go_wp2_with fail
   refine Sm (CD.out _) ?_
   go_wp2_with fail
   refine Dm (CU.out _) fun n2 => ?_
   go_wp2_with fail
   refine Sm (CD2.out _) ?_
   go_wp2_with fail
   refine Bm (CC.out _) fun w1 b1 => ?_
   have T1 := (T0.out.draw (n1 + n2)).step b1
   have HG := Lh T1.bl
   have HB := Lh T1.bw
   clear T1 b1
   go_wp2_with (refine tkS rfl rfl w.heap.size 0 ⟨#[]⟩ 0 false false 0 0 rfl rfl HG.out ?_)
   refine tkR rfl rfl HG.out rfl rfl ⟨?_, Ae HB.out (Nat.le_refl _) _⟩
   rfl
  | some p =>
   have CC := Lh (show ∀ W, Cp 71 #[.string s, .int .i64 k] W fun e w' => e = .returned (.tuple #[.agg #[.int .i64 ((p.1 : Nat) : Int), .string ⟨(bL p.2.1).toArray⟩, .float .f64 p.2.2.1, .bool p.2.2.2.1, .bool false, .int .i64 0, .int .i64 ((k + p.2.2.2.2 : Nat) : Int)], .bool true]) ∧ Below W.heap.size W w' from CC.out)
   have HE : Hid (Em (E6 k (some p)) = .returned (.tuple #[.agg #[.int .i64 ((p.1 : Nat) : Int), .string ⟨(bL p.2.1).toArray⟩, .float .f64 p.2.2.1, .bool p.2.2.2.1, .bool false, .int .i64 0, .int .i64 ((k + p.2.2.2.2 : Nat) : Int)], .bool true])) := Lh rfl
   obtain ⟨kd, hkd⟩ : ∃ kd : Int, ((p.1 : Nat) : Int) = kd := ⟨_, rfl⟩
   obtain ⟨tx, htx⟩ : ∃ tx : ByteArray, (⟨(bL p.2.1).toArray⟩ : ByteArray) = tx := ⟨_, rfl⟩
   obtain ⟨xx, hxx⟩ : ∃ xx, p.2.2.1 = xx := ⟨_, rfl⟩
   obtain ⟨es, hes⟩ : ∃ es, p.2.2.2.1 = es := ⟨_, rfl⟩
   obtain ⟨fi, hfi⟩ : ∃ fi : Int, ((k + p.2.2.2.2 : Nat) : Int) = fi := ⟨_, rfl⟩
   rw [hkd, htx, hxx, hes, hfi] at CC HE
   clear hkd htx hxx hes hfi
   go_enter Tryz.func37, Tryz.ntmps37
   go_wp2_with fail
   refine Dm (C1.out _) fun n1 => ?_
   go_wp2_with fail
   refine Sm (CS.out _) ?_
   go_wp2_with fail
   refine Sm (CD.out _) ?_
   go_wp2_with fail
   refine Dm (CU.out _) fun n2 => ?_
   go_wp2_with fail
   refine Sm (CD2.out _) ?_
   go_wp2_with fail
   refine Bm (CC.out _) fun w1 b1 => ?_
   have T1 := (T0.out.draw (n1 + n2)).step b1
   have HG := Lh T1.bl
   have HB := Lh T1.bw
   clear T1 b1
   go_wp2_with (refine tkS rfl rfl w.heap.size (kd : Int) tx xx es false 0 fi rfl rfl HG.out ?_)
   refine tkR rfl rfl HG.out rfl rfl ⟨?_, Ae HB.out (Nat.le_refl _) _⟩
   exact HE.out.symm
 ·rw [hd] at CD
  clear h hd CU
  cases o with
  | none =>
   have CC := Lh (show ∀ W, Cp 71 #[.string s, .int .i64 k] W fun e w' => e = .returned (.tuple #[.agg #[.int .i64 0, .string ⟨#[]⟩, .float .f64 0, .bool false, .bool false, .int .i64 0, .int .i64 0], .bool false]) ∧ Below W.heap.size W w' from CC.out)
   go_enter Tryz.func37, Tryz.ntmps37
   go_wp2_with fail
   refine Dm (C1.out _) fun n1 => ?_
   go_wp2_with fail
   refine Sm (CS.out _) ?_
   go_wp2_with fail
   refine Sm (CD.out _) ?_
   go_wp2_with fail
   refine Bm (CC.out _) fun w1 b1 => ?_
   have T1 := (T0.out.draw (n1)).step b1
   have HG := Lh T1.bl
   have HB := Lh T1.bw
   clear T1 b1
   go_wp2_with (refine tkS rfl rfl w.heap.size 0 ⟨#[]⟩ 0 false false 0 0 rfl rfl HG.out ?_)
   refine tkR rfl rfl HG.out rfl rfl ⟨?_, Ae HB.out (Nat.le_refl _) _⟩
   rfl
  | some p =>
   have CC := Lh (show ∀ W, Cp 71 #[.string s, .int .i64 k] W fun e w' => e = .returned (.tuple #[.agg #[.int .i64 ((p.1 : Nat) : Int), .string ⟨(bL p.2.1).toArray⟩, .float .f64 p.2.2.1, .bool p.2.2.2.1, .bool false, .int .i64 0, .int .i64 ((k + p.2.2.2.2 : Nat) : Int)], .bool true]) ∧ Below W.heap.size W w' from CC.out)
   have HE : Hid (Em (E6 k (some p)) = .returned (.tuple #[.agg #[.int .i64 ((p.1 : Nat) : Int), .string ⟨(bL p.2.1).toArray⟩, .float .f64 p.2.2.1, .bool p.2.2.2.1, .bool false, .int .i64 0, .int .i64 ((k + p.2.2.2.2 : Nat) : Int)], .bool true])) := Lh rfl
   obtain ⟨kd, hkd⟩ : ∃ kd : Int, ((p.1 : Nat) : Int) = kd := ⟨_, rfl⟩
   obtain ⟨tx, htx⟩ : ∃ tx : ByteArray, (⟨(bL p.2.1).toArray⟩ : ByteArray) = tx := ⟨_, rfl⟩
   obtain ⟨xx, hxx⟩ : ∃ xx, p.2.2.1 = xx := ⟨_, rfl⟩
   obtain ⟨es, hes⟩ : ∃ es, p.2.2.2.1 = es := ⟨_, rfl⟩
   obtain ⟨fi, hfi⟩ : ∃ fi : Int, ((k + p.2.2.2.2 : Nat) : Int) = fi := ⟨_, rfl⟩
   rw [hkd, htx, hxx, hes, hfi] at CC HE
   clear hkd htx hxx hes hfi
   go_enter Tryz.func37, Tryz.ntmps37
   go_wp2_with fail
   refine Dm (C1.out _) fun n1 => ?_
   go_wp2_with fail
   refine Sm (CS.out _) ?_
   go_wp2_with fail
   refine Sm (CD.out _) ?_
   go_wp2_with fail
   refine Bm (CC.out _) fun w1 b1 => ?_
   have T1 := (T0.out.draw (n1)).step b1
   have HG := Lh T1.bl
   have HB := Lh T1.bw
   clear T1 b1
   go_wp2_with (refine tkS rfl rfl w.heap.size (kd : Int) tx xx es false 0 fi rfl rfl HG.out ?_)
   refine tkR rfl rfl HG.out rfl rfl ⟨?_, Ae HB.out (Nat.le_refl _) _⟩
   exact HE.out.symm
theorem Xy (s : ByteArray) (k c : Nat) (w : World) (o : Option (Nat × List Nat × Nat × Bool × Nat)) (hkl : (k : Int) ≤ 70368744177664) (hst : stN c = false) (h92 : c ≠ 92) (h34 : c ≠ 34) (h39 : c ≠ 39) (d : Nat) (CU : Hid (∀ W, Cp 36 #[.string s, .int .i64 ((k : Int) + 1)] W fun e w' => e = .returned (.int .u16 (d : Nat)) ∧ ∃ n, w' = W.drewN n)) (h : (Ah c || (c == 46 && Ah d)) = false)
  (C1 : Hid (∀ W, Cp 66 #[.string s, .int .i64 k] W fun e w' => e = .returned (.tuple #[.int .u16 (c : Nat), .bool true]) ∧ ∃ n, w' = W.drewN n))
  (CC : Hid (∀ W, Cp 72 #[.string s, .int .i64 k] W fun e w' => e = Em (E6 k o) ∧ Below W.heap.size W w')) :
  Cp 37 #[.string s, .int .i64 k] w fun e w' => e = Em (E6 k o) ∧ Below w.heap.size w w' := by
 have CS := Lh (fun W => Mn c W)
 have CD := Lh (fun W => Au c W)
 have T0 := Lh (TB.start w)
 rw [hst] at CS
 have g1 : ((c : Int) == 92) = false := by rw [beq_eq_false_iff_ne]; omega
 have g2 : ((c : Int) == 34) = false := by rw [beq_eq_false_iff_ne]; omega
 have g3 : ((c : Int) == 39) = false := by rw [beq_eq_false_iff_ne]; omega
 clear hst h92 h34 h39
 have hd : Ah c = false := by
  cases hd : Ah c
  ·rfl
  ·rw [hd] at h; cases h
 rw [hd] at CD h
 by_cases h46 : c = 46
 ·have h2 : Ah d = false := by
   rw [h46] at h
   simpa using h
  have CD2 := fun W => Au d W
  rw [h2] at CD2
  have CD2 := Lh CD2
  subst h46
  clear h hd g1 g2 g3 h2
  cases o with
  | none =>
   have CC := Lh (show ∀ W, Cp 72 #[.string s, .int .i64 k] W fun e w' => e = .returned (.tuple #[.agg #[.int .i64 0, .string ⟨#[]⟩, .float .f64 0, .bool false, .bool false, .int .i64 0, .int .i64 0], .bool false]) ∧ Below W.heap.size W w' from CC.out)
   go_enter Tryz.func37, Tryz.ntmps37
   go_wp2_with fail
   refine Dm (C1.out _) fun n1 => ?_
   go_wp2_with fail
   refine Sm (CS.out _) ?_
   go_wp2_with fail
   refine Sm (CD.out _) ?_
   go_wp2_with fail
   refine Dm (CU.out _) fun n2 => ?_
   go_wp2_with fail
   refine Sm (CD2.out _) ?_
   go_wp2_with fail
   refine Bm (CC.out _) fun w1 b1 => ?_
   have T1 := (T0.out.draw (n1 + n2)).step b1
   have HG := Lh T1.bl
   have HB := Lh T1.bw
   clear T1 b1
   go_wp2_with (refine tkS rfl rfl w.heap.size 0 ⟨#[]⟩ 0 false false 0 0 rfl rfl HG.out ?_)
   refine tkR rfl rfl HG.out rfl rfl ⟨?_, Ae HB.out (Nat.le_refl _) _⟩
   rfl
  | some p =>
   have CC := Lh (show ∀ W, Cp 72 #[.string s, .int .i64 k] W fun e w' => e = .returned (.tuple #[.agg #[.int .i64 ((p.1 : Nat) : Int), .string ⟨(bL p.2.1).toArray⟩, .float .f64 p.2.2.1, .bool p.2.2.2.1, .bool false, .int .i64 0, .int .i64 ((k + p.2.2.2.2 : Nat) : Int)], .bool true]) ∧ Below W.heap.size W w' from CC.out)
   have HE : Hid (Em (E6 k (some p)) = .returned (.tuple #[.agg #[.int .i64 ((p.1 : Nat) : Int), .string ⟨(bL p.2.1).toArray⟩, .float .f64 p.2.2.1, .bool p.2.2.2.1, .bool false, .int .i64 0, .int .i64 ((k + p.2.2.2.2 : Nat) : Int)], .bool true])) := Lh rfl
   obtain ⟨kd, hkd⟩ : ∃ kd : Int, ((p.1 : Nat) : Int) = kd := ⟨_, rfl⟩
   obtain ⟨tx, htx⟩ : ∃ tx : ByteArray, (⟨(bL p.2.1).toArray⟩ : ByteArray) = tx := ⟨_, rfl⟩
   obtain ⟨xx, hxx⟩ : ∃ xx, p.2.2.1 = xx := ⟨_, rfl⟩
   obtain ⟨es, hes⟩ : ∃ es, p.2.2.2.1 = es := ⟨_, rfl⟩
   obtain ⟨fi, hfi⟩ : ∃ fi : Int, ((k + p.2.2.2.2 : Nat) : Int) = fi := ⟨_, rfl⟩
   rw [hkd, htx, hxx, hes, hfi] at CC HE
   clear hkd htx hxx hes hfi
   go_enter Tryz.func37, Tryz.ntmps37
   go_wp2_with fail
   refine Dm (C1.out _) fun n1 => ?_
   go_wp2_with fail
   refine Sm (CS.out _) ?_
   go_wp2_with fail
   refine Sm (CD.out _) ?_
   go_wp2_with fail
   refine Dm (CU.out _) fun n2 => ?_
   go_wp2_with fail
   refine Sm (CD2.out _) ?_
   go_wp2_with fail
   refine Bm (CC.out _) fun w1 b1 => ?_
   have T1 := (T0.out.draw (n1 + n2)).step b1
   have HG := Lh T1.bl
   have HB := Lh T1.bw
   clear T1 b1
   go_wp2_with (refine tkS rfl rfl w.heap.size (kd : Int) tx xx es false 0 fi rfl rfl HG.out ?_)
   refine tkR rfl rfl HG.out rfl rfl ⟨?_, Ae HB.out (Nat.le_refl _) _⟩
   exact HE.out.symm
 ·have g4 : ((c : Int) == 46) = false := by rw [beq_eq_false_iff_ne]; omega
  clear h hd h46 CU
  cases o with
  | none =>
   have CC := Lh (show ∀ W, Cp 72 #[.string s, .int .i64 k] W fun e w' => e = .returned (.tuple #[.agg #[.int .i64 0, .string ⟨#[]⟩, .float .f64 0, .bool false, .bool false, .int .i64 0, .int .i64 0], .bool false]) ∧ Below W.heap.size W w' from CC.out)
   go_enter Tryz.func37, Tryz.ntmps37
   go_wp2_with fail
   refine Dm (C1.out _) fun n1 => ?_
   go_wp2_with fail
   refine Sm (CS.out _) ?_
   go_wp2_with fail
   refine Sm (CD.out _) ?_
   go_wp2_with fail
   refine Bm (CC.out _) fun w1 b1 => ?_
   have T1 := (T0.out.draw (n1)).step b1
   have HG := Lh T1.bl
   have HB := Lh T1.bw
   clear T1 b1
   go_wp2_with (refine tkS rfl rfl w.heap.size 0 ⟨#[]⟩ 0 false false 0 0 rfl rfl HG.out ?_)
   refine tkR rfl rfl HG.out rfl rfl ⟨?_, Ae HB.out (Nat.le_refl _) _⟩
   rfl
  | some p =>
   have CC := Lh (show ∀ W, Cp 72 #[.string s, .int .i64 k] W fun e w' => e = .returned (.tuple #[.agg #[.int .i64 ((p.1 : Nat) : Int), .string ⟨(bL p.2.1).toArray⟩, .float .f64 p.2.2.1, .bool p.2.2.2.1, .bool false, .int .i64 0, .int .i64 ((k + p.2.2.2.2 : Nat) : Int)], .bool true]) ∧ Below W.heap.size W w' from CC.out)
   have HE : Hid (Em (E6 k (some p)) = .returned (.tuple #[.agg #[.int .i64 ((p.1 : Nat) : Int), .string ⟨(bL p.2.1).toArray⟩, .float .f64 p.2.2.1, .bool p.2.2.2.1, .bool false, .int .i64 0, .int .i64 ((k + p.2.2.2.2 : Nat) : Int)], .bool true])) := Lh rfl
   obtain ⟨kd, hkd⟩ : ∃ kd : Int, ((p.1 : Nat) : Int) = kd := ⟨_, rfl⟩
   obtain ⟨tx, htx⟩ : ∃ tx : ByteArray, (⟨(bL p.2.1).toArray⟩ : ByteArray) = tx := ⟨_, rfl⟩
   obtain ⟨xx, hxx⟩ : ∃ xx, p.2.2.1 = xx := ⟨_, rfl⟩
   obtain ⟨es, hes⟩ : ∃ es, p.2.2.2.1 = es := ⟨_, rfl⟩
   obtain ⟨fi, hfi⟩ : ∃ fi : Int, ((k + p.2.2.2.2 : Nat) : Int) = fi := ⟨_, rfl⟩
   rw [hkd, htx, hxx, hes, hfi] at CC HE
   clear hkd htx hxx hes hfi
   go_enter Tryz.func37, Tryz.ntmps37
   go_wp2_with fail
   refine Dm (C1.out _) fun n1 => ?_
   go_wp2_with fail
   refine Sm (CS.out _) ?_
   go_wp2_with fail
   refine Sm (CD.out _) ?_
   go_wp2_with fail
   refine Bm (CC.out _) fun w1 b1 => ?_
   have T1 := (T0.out.draw (n1)).step b1
   have HG := Lh T1.bl
   have HB := Lh T1.bw
   clear T1 b1
   go_wp2_with (refine tkS rfl rfl w.heap.size (kd : Int) tx xx es false 0 fi rfl rfl HG.out ?_)
   refine tkR rfl rfl HG.out rfl rfl ⟨?_, Ae HB.out (Nat.le_refl _) _⟩
   exact HE.out.symm
theorem Acd (s : ByteArray) (k : Nat) (w : World)
  (C1 : Hid (∀ W, Cp 66 #[.string s, .int .i64 k] W fun e w' => e = .returned (.tuple #[.int .u16 0, .bool false]) ∧ ∃ n, w' = W.drewN n)) :
  Cp 37 #[.string s, .int .i64 k] w fun e w' => e = Em (E6 k (some (1, [], 0, false, 0))) ∧ Below w.heap.size w w' := by
 have T0 := Lh (TB.start w)
 go_enter Tryz.func37, Tryz.ntmps37
 go_wp2_with fail
 refine Dm (C1.out _) fun n1 => ?_
 have T1 := T0.out.draw n1
 have HG := Lh T1.bl
 have HB := Lh T1.bw
 clear T1
 go_wp2_with (refine tkS rfl rfl w.heap.size 1 ⟨#[]⟩ 0 false false 0 (k : Int) rfl rfl HG.out ?_)
 refine tkR rfl rfl HG.out rfl rfl ⟨?_, Ae HB.out (Nat.le_refl _) _⟩
 rfl
theorem Abl (s : ByteArray) (k : Nat) (w : World) (hs : s.size ≤ 4398046511104) (hk : k ≤ ln s) :
  Cp 37 #[.string s, .int .i64 k] w fun e w' => e = Em (E6 k (Dn ((us s).drop k))) ∧ Below w.heap.size w w' := by
 have hs63 : s.size ≤ maxLen := by unfold maxLen; omega
 have hln := Ap s
 have hkl : (k : Int) ≤ 70368744177664 := by omega
 have CT := fun W => Dk s k W hs63
 rcases Nat.lt_or_ge k (ln s) with hlt | hge
 ·obtain ⟨c, h1, h2⟩ := Bw (L := us s) (k := k) (by rw [Ab]; exact hlt)
  have CU : ∀ W, Cp 36 #[.string s, .int .i64 ((k : Int) + 1)] W fun e w' => e = .returned (.int .u16 ((hd0 ((us s).drop (k + 1)) : Nat) : Int)) ∧ ∃ n, w' = W.drewN n := fun W => An s (k + 1) W hs63
  have CN := fun W => Acp s k W hs hk
  have CQ := fun W h => Ux s k W (by omega) hlt h
  have CM := fun W => Vc s k W (by omega) hk
  have CK := fun W => Aas s k W (by omega) hk
  rw [h2] at CT CQ
  rw [h1] at CT CM CK ⊢
  have C1 := Lh (show ∀ W, Cp 66 #[.string s, .int .i64 k] W fun e w' => e = .returned (.tuple #[.int .u16 (c : Nat), .bool true]) ∧ ∃ n, w' = W.drewN n from CT)
  rw [Dn]
  by_cases e1 : (stN c || c == 92) = true
  ·rw [if_pos e1]
   refine Yj s k c w _ hkl e1 C1 (Lh fun W => ?_)
   have e : Aev (Hr k [] false s) = E6 k ((Nj (c :: (us s).drop (k + 1))).map fun p => (if Il p.1 = true then 3 else 2, p.1, 0, p.2.1, p.2.2)) := by
    unfold Aev Hr E6 Nj Jb
    rw [h1, show (([] : List Nat).length == 0) = true from rfl]
    cases Fn ((c :: (us s).drop (k + 1)).length + 1) true (c :: (us s).drop (k + 1)) with
    | none => rfl
    | some p => simp
   rw [← e]
   exact CN W
  ·rw [if_neg e1]
   have e1' : (stN c || c == 92) = false := by simpa using e1
   obtain ⟨hst, h92⟩ : stN c = false ∧ c ≠ 92 := by simpa using e1'
   by_cases e2 : (c == 34 || c == 39) = true
   ·rw [if_pos e2]
    have e3 : c = 34 ∨ c = 39 := by simpa using e2
    refine Sr s k c w _ hkl e3 C1 (Lh fun W => ?_)
    have e : Aet k (Fa c ((us s).drop (k + 1))) = E6 k ((Fa c ((us s).drop (k + 1))).map fun p => (6, p.1, 0, false, 1 + p.2)) := by
     unfold Aet E6
     cases Fa c ((us s).drop (k + 1)) with
     | none => rfl
     | some p => simp [Nat.add_assoc]
    rw [← e]
    exact CQ W e3
   ·rw [if_neg e2]
    obtain ⟨h34, h39⟩ : c ≠ 34 ∧ c ≠ 39 := by simpa using e2
    by_cases e4 : (Ah c || (c == 46 && Ah (hd0 ((us s).drop (k + 1))))) = true
    ·rw [if_pos e4]
     refine Rz s k c w _ hkl hst h92 h34 h39 _ (Lh CU) e4 C1 (Lh fun W => ?_)
     have e : nmV k (c :: (us s).drop (k + 1)) = E6 k ((N8 (c :: (us s).drop (k + 1))).map fun p => (5, [], p.1, false, p.2)) := by
      obtain ⟨n1, n2⟩ := Adf (c :: (us s).drop (k + 1))
      unfold nmV E6 N8
      rw [n1]
      by_cases n3 : Ja (c :: (us s).drop (k + 1)) (Dx (c :: (us s).drop (k + 1))) = true
      ·rw [if_pos n3, if_pos n3, n2 n3]
       rfl
      ·rw [if_neg n3, if_neg n3]
       rfl
     rw [← e]
     exact CM W
    ·rw [if_neg e4]
     refine Xy s k c w _ hkl hst h92 h34 h39 _ (Lh CU) (by simpa using e4) C1 (Lh fun W => ?_)
     have e : mkV k (Eh (c :: (us s).drop (k + 1))) = E6 k ((Eh (c :: (us s).drop (k + 1))).map fun t => (4, t, 0, false, t.length)) := by
      unfold mkV E6
      cases Eh (c :: (us s).drop (k + 1)) with
      | none => rfl
      | some p => rfl
     rw [← e]
     exact CK W
 ·have hd : (us s).drop k = [] := List.drop_eq_nil_iff.2 (by rw [Ab]; exact hge)
  rw [hd] at CT ⊢
  exact Acd s k w (Lh CT)

end
section
def skE (k : Nat) (b : Bool) (p : Nat × Bool × Bool) : Ending := .returned (.tuple #[.int .i64 ((k + p.1 : Nat) : Int), .bool (b || p.2.1), .bool p.2.2])
theorem Abq (s : ByteArray) (k : Nat) (w : World) (hs : s.size ≤ 140737488355328) (hk : k ≤ ln s) :
    Cp 35 #[.string s, .int .i64 k] w fun e w' => e = skE k false (As ((us s).drop k)) ∧ ∃ n, w' = w.drewN n := by
  have C1 := Lh (fun (j : Nat) (h : j ≤ ln s) W => Afd s j W hs h)
  have hln := Ap s
  have hl : ((ln s : Nat) : Int) ≤ 140737488355328 := by omega
  obtain ⟨R, hR⟩ : ∃ R, skE k false (As ((us s).drop k)) = R := ⟨_, rfl⟩
  rw [hR]
  have HR := Lh hR
  have HK := Lh hk
  clear hs hln hR hk
  go_enter Tryz.func35, Tryz.ntmps35
  go_wp2
  go_loopw [1, 7] (fun v nl wr => ∃ (j : Nat) (b : Bool), v = .int .i64 j ∧ nl = .bool b ∧ j ≤ ln s ∧ Hid (R = skE j b (As ((us s).drop j))) ∧ ∃ n, wr = w.drewN n) (fun v _ _ => ln s - (intOf v).toNat)
  case atStart => exact ⟨k, false, rfl, rfl, HK.out, Lh HR.out.symm, 0, rfl⟩
  case round =>
    obtain ⟨j, b, rfl, rfl, hj, HJ, n0, rfl⟩ := hrel
    have C2 := Lh (C1.out j hj)
    have hs1 := Py ((us s).drop j)
    cases hg : Ow ((us s).drop j) with
    | none =>
      rw [hg] at C2 hs1
      have HJ2 : Hid (R = skE j b (0, false, false)) := Lh (by rw [HJ.out, hs1])
      clear hg hs1 HJ
      go_wp2_with fail
      refine Dm (C2.out _) fun n1 => ?_
      simp only [Option.map_none, Mt]
      go_wp2
      go_ret3
      exact ⟨by rw [HJ2.out]; simp [skE], n0 + n1, by first | rfl | simp⟩
    | some p =>
      obtain ⟨n, g⟩ := p
      cases n with
      | zero =>
        rw [hg] at C2 hs1
        have HJ2 : Hid (R = skE j b (0, false, true)) := Lh (by rw [HJ.out, hs1])
        clear hg hs1 HJ
        go_wp2_with fail
        refine Dm (C2.out _) fun n1 => ?_
        simp only [Option.map_some, Mt, Im, Bool.false_or, Nat.add_zero]
        go_wp2
        go_ret3
        exact ⟨by rw [HJ2.out]; simp [skE], n0 + n1, by first | rfl | simp⟩
      | succ n =>
        have hle := Rq hg
        rw [List.length_drop, Ab] at hle
        rw [hg] at C2 hs1
        have HJ2 : Hid (R = skE (j + (n + 1)) (b || g) (As ((us s).drop (j + (n + 1))))) := Lh (by
          rw [HJ.out, hs1]
          simp only [List.drop_drop]
          unfold skE
          simp only [Bool.or_assoc, Nat.add_assoc])
        obtain ⟨m, hm⟩ : ∃ m, j + (n + 1) = m := ⟨_, rfl⟩
        have hm1 : j < m := by omega
        have hm2 : m ≤ ln s := by omega
        have hm3 : ¬ ((m : Int) = (j : Int)) := by omega
        rw [hm] at HJ2
        simp only [Option.map_some, Mt, Im, Bool.false_or] at C2
        rw [hm] at C2
        clear hg hs1 HJ hle hm
        cases b
        all_goals
          go_wp2_with fail
          refine Dm (C2.out _) fun n1 => ?_
          go_wp2
          go_roundw
          case rel => exact ⟨m, _, rfl, rfl, hm2, HJ2, n0 + n1, by first | rfl | simp⟩
          case measure => simp [intOf]; omega


end
section
def tkT (t : Tok) : Value := tkV t.kind ⟨(bL t.text).toArray⟩ t.num t.esc t.nl t.pos t.fin
def NxE : Nat × Option Tok → Ending
 | (_, some t) => .returned (.tuple #[tkT t, .int .i64 0, .int .i64 0])
 | (p, none) => .returned (.tuple #[.agg #[.int .i64 0, .string ⟨#[]⟩, .float .f64 0, .bool false, .bool false, .int .i64 0, .int .i64 0], .int .i64 (p : Nat), .int .i64 60])
def Mv (op : Bool) (p : Nat) (l : List Nat) : Nat × Option Tok :=
 if ((As l).2.2 = false) ∨ (op = true ∧ hd0 (l.drop (As l).1) = 47) then (p + (As l).1, none)
 else match Dn (l.drop (As l).1) with
  | none => (p + (As l).1, none)
  | some (k, t, x, e, n) => (0, some ⟨k, t, x, e, (As l).2.1, p + (As l).1, p + (As l).1 + n⟩)
theorem N9 (p : Nat) (l : List Nat) : Mv false p l = If p l := by
 unfold Mv If
 simp only [Bool.false_eq_true, false_and, or_false]
 rfl
theorem Pr (s : ByteArray) (k : Nat) (op : Bool) (w : World) (hs : s.size ≤ 4398046511104) (hk : k ≤ ln s) :
  Cp 9 #[.string s, .int .i64 k, .bool op] w fun e w' => e = NxE (Mv op k ((us s).drop k)) ∧ Below w.heap.size w w' := by
 have hs63 : s.size ≤ maxLen := by unfold maxLen; omega
 have hln := Ap s
 have CL := Lh (fun W => Cr s W hs63)
 have CK := fun W => Abq s k W (by omega) hk
 have hd0 : (k : Int) ≤ (ln s : Nat) := by omega
 have hgt : decide (ln s < k) = false := by simpa using hk
 rcases hsk : As ((us s).drop k) with ⟨n, nl, ok⟩
 have hnl : n ≤ ((us s).drop k).length := by have := Hk ((us s).drop k); rw [hsk] at this; exact this
 rw [List.length_drop, Ab] at hnl
 rw [hsk] at CK
 obtain ⟨p, hp⟩ : ∃ p, k + n = p := ⟨_, rfl⟩
 have hpl : p ≤ ln s := by omega
 have CK := Lh (show ∀ W, Cp 35 #[.string s, .int .i64 k] W fun e w' => e = .returned (.tuple #[.int .i64 (p : Nat), .bool nl, .bool ok]) ∧ ∃ n, w' = W.drewN n from fun W => (CK W).mono fun e w' ⟨he, hw⟩ => ⟨by rw [he, ← hp]; simp [skE], hw⟩)
 have CU := fun W => An s p W hs63
 have CR := fun W => Abl s p W hs hpl
 have e1 : ((us s).drop k).drop n = (us s).drop p := by rw [List.drop_drop, hp]
 have hR : Mv op k ((us s).drop k) = if (ok = false) ∨ (op = true ∧ Go.Proofs.YtmimeejjaneedaaGreatDoor.hd0 ((us s).drop p) = 47) then (p, none)
   else match Dn ((us s).drop p) with
    | none => (p, none)
    | some (k, t, x, e, n) => (0, some ⟨k, t, x, e, nl, p, p + n⟩) := by
  unfold Mv
  rw [hsk]
  simp only [e1, hp]
 rw [hR]
 obtain ⟨c, hc⟩ : ∃ c, Go.Proofs.YtmimeejjaneedaaGreatDoor.hd0 ((us s).drop p) = c := ⟨_, rfl⟩
 rw [hc] at CU ⊢
 have CU := Lh CU
 have T0 := Lh (TB.start w)
 obtain ⟨o, ho⟩ : ∃ o, Dn ((us s).drop p) = o := ⟨_, rfl⟩
 rw [ho] at CR ⊢
 clear hs63 hln hs hk hsk hnl hp hpl e1 hR hc ho hd0
 cases ok
 ·rw [if_pos (.inl rfl)]
  clear CU CR
  go_enter Tryz.func9, Tryz.ntmps9
  go_wp2_with fail
  refine Sm (CL.out _) ?_
  go_wp2_with fail
  refine Dm (CK.out _) fun n1 => ?_
  have T1 := T0.out.draw n1
  have HG := Lh T1.bl
  have HB := Lh T1.bw
  clear T1
  go_wp2_with (refine tkS rfl rfl w.heap.size 0 ⟨#[]⟩ 0 false false 0 0 rfl rfl HG.out ?_)
  refine Hw rfl rfl HG.out rfl rfl ⟨?_, Ae HB.out (Nat.le_refl _) _⟩
  rfl
 ·by_cases h47 : op = true ∧ c = 47
  ·rw [if_pos (.inr h47)]
   obtain ⟨rfl, rfl⟩ := h47
   clear CR
   go_enter Tryz.func9, Tryz.ntmps9
   go_wp2_with fail
   refine Sm (CL.out _) ?_
   go_wp2_with fail
   refine Dm (CK.out _) fun n1 => ?_
   go_wp2_with fail
   refine Dm (CU.out _) fun n2 => ?_
   have T1 := T0.out.draw (n1 + n2)
   have HG := Lh T1.bl
   have HB := Lh T1.bw
   clear T1
   go_wp2_with (refine tkS rfl rfl w.heap.size 0 ⟨#[]⟩ 0 false false 0 0 rfl rfl HG.out ?_)
   refine Hw rfl rfl HG.out rfl rfl ⟨?_, Ae HB.out (Nat.le_refl _) _⟩
   rfl
  ·rw [if_neg (by simpa using h47)]
   cases o with
   | none =>
    have CR := Lh (show ∀ W, Cp 37 #[.string s, .int .i64 (p : Nat)] W fun e w' => e = .returned (.tuple #[.agg #[.int .i64 0, .string ⟨#[]⟩, .float .f64 0, .bool false, .bool false, .int .i64 0, .int .i64 0], .bool false]) ∧ Below W.heap.size W w' from CR)
    cases op
    ·clear CU h47
     go_enter Tryz.func9, Tryz.ntmps9
     go_wp2_with fail
     refine Sm (CL.out _) ?_
     go_wp2_with fail
     refine Dm (CK.out _) fun n1 => ?_
     go_wp2_with fail
     refine Bm (CR.out _) fun w1 b1 => ?_
     have T1 := ((T0.out.draw (n1)).step b1).step ((Below.refl _ _).alloc (Nat.le_refl _) (.cells #[.int .i64 0, .string ⟨#[]⟩, .float .f64 0, .bool false, .bool false, .int .i64 0, .int .i64 0] 24))
     have HG := Lh T1.bl
     have HB := Lh T1.bw
     clear T1 b1
     go_wp2_with (first | (refine tkS rfl rfl w1.heap.size 0 ⟨#[]⟩ 0 false false 0 0 rfl rfl (heap_alloc_last w1 _) ?_; rw [World.setRow_alloc_new]) | (refine tkS rfl rfl w.heap.size 0 ⟨#[]⟩ 0 false false 0 0 rfl rfl HG.out ?_))
     refine Hw rfl rfl HG.out rfl rfl ⟨?_, Ae HB.out (Nat.le_refl _) _⟩
     rfl
    ·have g1 : ((c : Int) == 47) = false := by rw [beq_eq_false_iff_ne]; intro h; exact h47 ⟨rfl, by omega⟩
     clear h47
     go_enter Tryz.func9, Tryz.ntmps9
     go_wp2_with fail
     refine Sm (CL.out _) ?_
     go_wp2_with fail
     refine Dm (CK.out _) fun n1 => ?_
     go_wp2_with fail
     refine Dm (CU.out _) fun n2 => ?_
     go_wp2_with fail
     refine Bm (CR.out _) fun w1 b1 => ?_
     have T1 := ((T0.out.draw (n1 + n2)).step b1).step ((Below.refl _ _).alloc (Nat.le_refl _) (.cells #[.int .i64 0, .string ⟨#[]⟩, .float .f64 0, .bool false, .bool false, .int .i64 0, .int .i64 0] 24))
     have HG := Lh T1.bl
     have HB := Lh T1.bw
     clear T1 b1
     go_wp2_with (first | (refine tkS rfl rfl w1.heap.size 0 ⟨#[]⟩ 0 false false 0 0 rfl rfl (heap_alloc_last w1 _) ?_; rw [World.setRow_alloc_new]) | (refine tkS rfl rfl w.heap.size 0 ⟨#[]⟩ 0 false false 0 0 rfl rfl HG.out ?_))
     refine Hw rfl rfl HG.out rfl rfl ⟨?_, Ae HB.out (Nat.le_refl _) _⟩
     rfl
   | some q =>
    obtain ⟨kd0, t0, xx, es, n0⟩ := q
    have CR := Lh (show ∀ W, Cp 37 #[.string s, .int .i64 (p : Nat)] W fun e w' => e = .returned (.tuple #[.agg #[.int .i64 ((kd0 : Nat) : Int), .string ⟨(bL t0).toArray⟩, .float .f64 xx, .bool es, .bool false, .int .i64 0, .int .i64 ((p + n0 : Nat) : Int)], .bool true]) ∧ Below W.heap.size W w' from CR)
    have HE : Hid (NxE (0, some ⟨kd0, t0, xx, es, nl, p, p + n0⟩) = .returned (.tuple #[.agg #[.int .i64 ((kd0 : Nat) : Int), .string ⟨(bL t0).toArray⟩, .float .f64 xx, .bool es, .bool nl, .int .i64 (p : Nat), .int .i64 ((p + n0 : Nat) : Int)], .int .i64 0, .int .i64 0])) := Lh rfl
    obtain ⟨kd, hkd⟩ : ∃ kd : Int, ((kd0 : Nat) : Int) = kd := ⟨_, rfl⟩
    obtain ⟨tx, htx⟩ : ∃ tx : ByteArray, (⟨(bL t0).toArray⟩ : ByteArray) = tx := ⟨_, rfl⟩
    obtain ⟨fi, hfi⟩ : ∃ fi : Int, ((p + n0 : Nat) : Int) = fi := ⟨_, rfl⟩
    rw [hkd, htx, hfi] at CR HE
    clear hkd htx hfi
    cases op
    ·clear CU h47
     go_enter Tryz.func9, Tryz.ntmps9
     go_wp2_with fail
     refine Sm (CL.out _) ?_
     go_wp2_with fail
     refine Dm (CK.out _) fun n1 => ?_
     go_wp2_with fail
     refine Bm (CR.out _) fun w1 b1 => ?_
     have T1 := ((T0.out.draw (n1)).step b1).step ((Below.refl _ _).alloc (Nat.le_refl _) (.cells #[.int .i64 kd, .string tx, .float .f64 xx, .bool es, .bool nl, .int .i64 (p : Nat), .int .i64 fi] 24))
     have HG := Lh T1.bl
     have HB := Lh T1.bw
     clear T1 b1
     go_wp2_with (first | (refine tkS rfl rfl w1.heap.size kd tx xx es false 0 fi rfl rfl (heap_alloc_last w1 _) ?_; rw [World.setRow_alloc_new]) | (refine tkS rfl rfl w.heap.size kd tx xx es nl (p : Nat) fi rfl rfl HG.out ?_))
     refine Hw rfl rfl HG.out rfl rfl ⟨?_, Ae HB.out (Nat.le_refl _) _⟩
     exact HE.out.symm
    ·have g1 : ((c : Int) == 47) = false := by rw [beq_eq_false_iff_ne]; intro h; exact h47 ⟨rfl, by omega⟩
     clear h47
     go_enter Tryz.func9, Tryz.ntmps9
     go_wp2_with fail
     refine Sm (CL.out _) ?_
     go_wp2_with fail
     refine Dm (CK.out _) fun n1 => ?_
     go_wp2_with fail
     refine Dm (CU.out _) fun n2 => ?_
     go_wp2_with fail
     refine Bm (CR.out _) fun w1 b1 => ?_
     have T1 := ((T0.out.draw (n1 + n2)).step b1).step ((Below.refl _ _).alloc (Nat.le_refl _) (.cells #[.int .i64 kd, .string tx, .float .f64 xx, .bool es, .bool nl, .int .i64 (p : Nat), .int .i64 fi] 24))
     have HG := Lh T1.bl
     have HB := Lh T1.bw
     clear T1 b1
     go_wp2_with (first | (refine tkS rfl rfl w1.heap.size kd tx xx es false 0 fi rfl rfl (heap_alloc_last w1 _) ?_; rw [World.setRow_alloc_new]) | (refine tkS rfl rfl w.heap.size kd tx xx es nl (p : Nat) fi rfl rfl HG.out ?_))
     refine Hw rfl rfl HG.out rfl rfl ⟨?_, Ae HB.out (Nat.le_refl _) _⟩
     exact HE.out.symm

end
section
theorem Ac3 {l : List Nat} {v : Nat} (h : Eo 0 4 l = some v) : v < 65536 := Mi h (by omega)
theorem M4 : ∀ {f : Nat} {b : Bool} {l : List Nat} {t : List Nat} {e : Bool} {n : Nat}, (∀ u ∈ l, u < 65536) → Fn f b l = some (t, e, n) → t.length ≤ n ∧ ∀ u ∈ t, u < 65536
 | 0, _, l, t, _, n, _, h => by
  have h2 : [] = t := congrArg (fun p => p.1) (Option.some.inj h)
  rw [← h2]; simp
 | _ + 1, _, [], t, _, n, _, h => by
  have h2 : [] = t := congrArg (fun p => p.1) (Option.some.inj h)
  rw [← h2]; simp
 | f + 1, b, c :: r, t, e, n, hl, h => by
  rw [Fn] at h
  split at h
  ·split at h
   ·cases hx : Eo 0 4 r.tail with
    | none => rw [hx] at h; cases h
    | some v =>
     rw [hx] at h
     simp only at h
     split at h
     ·cases hs : Fn f false (r.drop 5) with
      | none => rw [hs] at h; cases h
      | some p =>
       obtain ⟨t1, e1, n1⟩ := p
       rw [hs] at h
       have h2 : 6 + n1 = n := congrArg (fun p => p.2.2) (Option.some.inj h)
       have h5 : v :: t1 = t := congrArg (fun p => p.1) (Option.some.inj h)
       have h3 := M4 (fun u hu => hl u (List.mem_cons_of_mem _ (List.mem_of_mem_drop hu))) hs
       have h4 := Ac3 hx
       rw [← h5]
       refine ⟨by rw [List.length_cons]; omega, fun u hu => ?_⟩
       rcases List.mem_cons.1 hu with rfl | hu
       ·exact h4
       ·exact h3.2 u hu
     ·cases h
   ·cases h
  ·split at h
   ·cases hs : Fn f false r with
    | none => rw [hs] at h; cases h
    | some p =>
     obtain ⟨t1, e1, n1⟩ := p
     rw [hs] at h
     have h2 : 1 + n1 = n := congrArg (fun p => p.2.2) (Option.some.inj h)
     have h5 : c :: t1 = t := congrArg (fun p => p.1) (Option.some.inj h)
     have h3 := M4 (fun u hu => hl u (List.mem_cons_of_mem _ hu)) hs
     rw [← h5]
     refine ⟨by rw [List.length_cons]; omega, fun u hu => ?_⟩
     rcases List.mem_cons.1 hu with rfl | hu
     ·exact hl _ (List.mem_cons_self ..)
     ·exact h3.2 u hu
   ·have h2 : [] = t := congrArg (fun p => p.1) (Option.some.inj h)
    rw [← h2]; simp
theorem Acy {s : ByteArray} {k : Nat} {p : List Nat × Bool × Nat} (h : Nj ((us s).drop k) = some p) : p.1.length ≤ ln s ∧ ∀ u ∈ p.1, u < 65536 := by
 obtain ⟨t, e, n⟩ := p
 have h1 := M4 (fun u hu => J1 s u (List.mem_of_mem_drop hu)) h
 have h2 := Mh h
 rw [List.length_drop, Ab] at h2
 exact ⟨by show t.length ≤ _; omega, h1.2⟩
abbrev wdsS : ByteArray := { data := #[32, 98, 114, 101, 97, 107, 32, 99, 97, 115, 101, 32, 99, 97, 116, 99, 104, 32, 99, 108, 97, 115, 115, 32, 99, 111, 110, 115, 116, 32, 99, 111, 110, 116, 105, 110, 117, 101, 32, 100, 101, 98, 117, 103, 103, 101, 114, 32, 100, 101, 102, 97, 117, 108, 116, 32, 100, 101, 108, 101, 116, 101, 32, 100, 111, 32, 101, 108, 115, 101, 32, 101, 110, 117, 109, 32, 101, 120, 112, 111, 114, 116, 32, 101, 120, 116, 101, 110, 100, 115, 32, 102, 97, 108, 115, 101, 32, 102, 105, 110, 97, 108, 108, 121, 32, 102, 111, 114, 32, 102, 117, 110, 99, 116, 105, 111, 110, 32, 105, 102, 32, 105, 109, 112, 108, 101, 109, 101, 110, 116, 115, 32, 105, 109, 112, 111, 114, 116, 32, 105, 110, 32, 105, 110, 115, 116, 97, 110, 99, 101, 111, 102, 32, 105, 110, 116, 101, 114, 102, 97, 99, 101, 32, 108, 101, 116, 32, 110, 101, 119, 32, 110, 117, 108, 108, 32, 112, 97, 99, 107, 97, 103, 101, 32, 112, 114, 105, 118, 97, 116, 101, 32, 112, 114, 111, 116, 101, 99, 116, 101, 100, 32, 112, 117, 98, 108, 105, 99, 32, 114, 101, 116, 117, 114, 110, 32, 115, 116, 97, 116, 105, 99, 32, 115, 117, 112, 101, 114, 32, 115, 119, 105, 116, 99, 104, 32, 116, 104, 105, 115, 32, 116, 104, 114, 111, 119, 32, 116, 114, 117, 101, 32, 116, 114, 121, 32, 116, 121, 112, 101, 111, 102, 32, 118, 97, 114, 32, 118, 111, 105, 100, 32, 119, 104, 105, 108, 101, 32, 119, 105, 116, 104, 32, 121, 105, 101, 108, 100, 32] }
theorem Lg : wdsS.size = 289 := by decide +kernel
theorem Jn : wdsT.length = 289 := by decide +kernel
theorem Agj : ∀ i : Fin 289, (wdsS[i.val]'(by have := Lg; omega)).toNat = wdsT.getD i.val 0 := by decide +kernel
theorem Sn (i : Nat) (h : i < wdsS.size) : (wdsS[i]'h).toNat = wdsT.getD i 0 := Agj ⟨i, by have := Lg; omega⟩
theorem F9 {i : Nat} (h : i < 289) : wdsT[i]? = some (wdsT.getD i 0) := by
 rw [List.getD_eq_getElem?_getD, List.getElem?_eq_getElem (by rw [Jn]; exact h)]
 rfl
def wdQ (U : List Nat) (i j : Nat) : Bool := U.getD j 0 == wdsT.getD (i + 1 + j) 0 && U.getD j 0 != 32
theorem Afg {U : List Nat} {i : Nat} (h1 : i + U.length + 1 < 289) (h2 : wdsT.getD i 0 = 32) (h3 : wdsT.getD (i + U.length + 1) 0 = 32) :
  Ie U i = (List.range U.length).all (wdQ U i) := by
 unfold Ie
 rw [F9 (by omega), F9 h1, h2, h3]
 rw [Bool.eq_iff_iff]
 simp only [BEq.rfl, Bool.true_and, Bool.and_eq_true, beq_iff_eq, List.all_eq_true, List.mem_range, bne_iff_ne]
 constructor
 ·rintro ⟨h4, h5⟩ j hj
  have h6 : U[j]? = some (U.getD j 0) := by
   rw [List.getD_eq_getElem?_getD, List.getElem?_eq_getElem hj]; rfl
  unfold wdQ
  rw [Bool.and_eq_true, beq_iff_eq, bne_iff_ne]
  refine ⟨?_, h5 _ (List.mem_of_getElem? h6)⟩
  have h7 : ((wdsT.drop (i + 1)).take U.length)[j]? = some (wdsT.getD (i + 1 + j) 0) := by
   rw [List.getElem?_take_of_lt hj, List.getElem?_drop, F9 (by omega)]
  rw [h4, h6] at h7
  exact Option.some.inj h7
 ·intro h
  have hq : ∀ j, j < U.length → U.getD j 0 = wdsT.getD (i + 1 + j) 0 ∧ U.getD j 0 ≠ 32 := fun j hj => by
   have := h j hj
   unfold wdQ at this
   rwa [Bool.and_eq_true, beq_iff_eq, bne_iff_ne] at this
  constructor
  ·apply List.ext_getElem?
   intro j
   rcases Nat.lt_or_ge j U.length with hj | hj
   ·rw [List.getElem?_take_of_lt hj, List.getElem?_drop, F9 (by omega), ← (hq j hj).1, List.getD_eq_getElem?_getD, List.getElem?_eq_getElem hj]
    rfl
   ·rw [List.getElem?_eq_none (by rw [List.length_take]; omega), List.getElem?_eq_none hj]
  ·intro c hc
   obtain ⟨j, hj, rfl⟩ := List.mem_iff_getElem.1 hc
   have := (hq j hj).2
   rw [List.getD_eq_getElem?_getD, List.getElem?_eq_getElem hj] at this
   exact this
theorem M0 {U : List Nat} {i : Nat} (h : wdsT.getD i 0 ≠ 32 ∨ 289 ≤ i + U.length + 1 ∨ wdsT.getD (i + U.length + 1) 0 ≠ 32) (hi : i < 289) : Ie U i = false := by
 rw [Bool.eq_false_iff]
 intro hw
 unfold Ie at hw
 rw [Bool.and_eq_true, Bool.and_eq_true, Bool.and_eq_true, beq_iff_eq, beq_iff_eq] at hw
 obtain ⟨⟨⟨h1, h2⟩, _⟩, _⟩ := hw
 rw [F9 hi] at h1
 rcases h with h | h | h
 ·exact h (Option.some.inj h1)
 ·rw [List.getElem?_eq_none (by rw [Jn]; exact h)] at h2
  cases h2
 ·rcases Nat.lt_or_ge (i + U.length + 1) 289 with h3 | h3
  ·rw [F9 h3] at h2
   exact h (Option.some.inj h2)
  ·rw [List.getElem?_eq_none (by rw [Jn]; exact h3)] at h2
   cases h2
theorem Agr {U : List Nat} {i : Nat} (h : 289 ≤ i) : Ie U i = false := by
 unfold Ie
 rw [List.getElem?_eq_none (by rw [Jn]; exact h)]
 rfl
theorem Of (f : Nat → Bool) (k : Nat) : (List.range (k + 1)).all f = ((List.range k).all f && f k) := by
 rw [List.range_succ, List.all_append]
 simp
theorem It (s : ByteArray) (w : World) (hs : s.size ≤ 17592186044416) :
  Cp 19 #[.string s] w fun e w' => e = .returned (.bool (Il (us s))) ∧ ∃ n, w' = w.drewN n := by
 have hs63 : s.size ≤ maxLen := by unfold maxLen; omega
 have hln := Ap s
 have CL := fun W => Cw s W hs63
 have C1 := Lh (fun (j : Nat) W => Bz s j W hs63)
 obtain ⟨n, hn⟩ : ∃ n, ln s = n := ⟨_, rfl⟩
 have hU : (us s).length = n := by rw [Ab, hn]
 rw [hn] at CL
 have CL := Lh CL
 obtain ⟨R, hR⟩ : ∃ R, Il (us s) = R := ⟨_, rfl⟩
 rw [hR]
 by_cases h0 : n = 0
 ·have hu0 : us s = [] := List.eq_nil_of_length_eq_zero (by rw [hU, h0])
  obtain rfl : R = false := by rw [← hR, hu0]; decide +kernel
  subst h0
  clear hs hs63 hln hn hU hR hu0 C1
  go_enter Tryz.func19, Tryz.ntmps19
  go_wp2_with fail
  refine Sm (CL.out _) ?_
  go_wp2
  go_ret
  exact ⟨rfl, 0, rfl⟩
 have hnl : (n : Int) ≤ 8796093022208 := by omega
 have g0 : ((n : Int) == 0) = false := by rw [beq_eq_false_iff_ne]; omega
 have HU := Lh hU
 have HNE : Hid (us s ≠ []) := Lh (by intro h; rw [h] at hU; simp at hU; omega)
 have HR : Hid (R = true ↔ ∃ i, Ie (us s) i = true) := Lh (by rw [← hR]; exact Aiq HNE.out)
 have HS := Lh Lg
 clear hs hs63 hln hn hU hR h0
 go_enter Tryz.func19, Tryz.ntmps19
 go_wp2_with fail
 refine Sm (CL.out _) ?_
 go_wp2
 go_loopw [4] (fun iv wr => ∃ i : Nat, iv = .int .i64 i ∧ i ≤ 289 ∧ Hid (∀ j, j < i → Ie (us s) j = false) ∧ ∃ m, wr = w.drewN m) (fun iv _ => 289 - (intOf iv).toNat)
 case atStart => exact ⟨0, by go_num, by omega, Lh (fun j hj => by omega), 0, rfl⟩
 case round =>
  obtain ⟨i, rfl, hi, HJ, n0, rfl⟩ := hrel
  have hil : (i : Int) ≤ 289 := by omega
  rcases Nat.lt_or_ge i 289 with hlt | hge
  ·have t1 : (i : Int) < 289 := by omega
   have hiS : i < wdsS.size := by rw [HS.out]; exact hlt
   have hb0 := Sn i hiS
   have hnext : Ie (us s) i = false → Hid (∀ j, j < i + 1 → Ie (us s) j = false) := fun h => Lh (fun j hj => by
    rcases Nat.lt_or_ge j i with h1 | h1
    ·exact HJ.out j h1
    ·obtain rfl : j = i := by omega
     exact h)
   have HNX := Lh hnext
   clear hnext
   by_cases e1 : wdsT.getD i 0 = 32
   ·have b1 : (((wdsS[i]'hiS).toNat : Nat) : Int) = 32 := by rw [hb0, e1]; rfl
    have b1' : ((((wdsS[i]'hiS).toNat : Nat) : Int) != 32) = false := by rw [b1]; rfl
    rcases Nat.lt_or_ge (i + n + 1) 289 with h2 | h2
    ·have hjS : i + n + 1 < wdsS.size := by rw [HS.out]; exact h2
     have hb1 := Sn (i + n + 1) hjS
     have t2 : (i : Int) + (n : Int) + 1 < 289 := by omega
     by_cases e2 : wdsT.getD (i + n + 1) 0 = 32
     ·have b2 : ((((wdsS[i + n + 1]'hjS).toNat : Nat) : Int) != 32) = false := by rw [hb1, e2]; rfl
      have HW : Hid (Ie (us s) i = (List.range n).all (wdQ (us s) i)) := Lh (by
       rw [← HU.out]
       exact Afg (by rw [HU.out]; exact h2) e1 (by rw [HU.out]; exact e2))
      have HLT := Lh h2
      have HLT0 := Lh hlt
      clear hb0 hb1 e1 e2 hlt
      go_wp2
      clear b1 b1' b2
      go_loopw [5, 6] (fun sv kv wr => ∃ (b : Bool) (k : Nat), sv = .bool b ∧ kv = .int .i64 k ∧ k ≤ n ∧ Hid (b = (List.range k).all (wdQ (us s) i)) ∧ ∃ m, wr = w.drewN m) (fun _ kv _ => n - (intOf kv).toNat)
      case atStart => exact ⟨true, 0, rfl, by go_num, Nat.zero_le _, Lh rfl, n0, by first | rfl | simp⟩
      case round =>
       obtain ⟨b, k, rfl, rfl, hk, HB, n1, rfl⟩ := hrel
       have hkl : (k : Int) ≤ 8796093022208 := by omega
       rcases Nat.lt_or_ge k n with hkn | hkn
       ·have t3 : (k : Int) < (n : Int) := by omega
        have C2 := C1.out k
        have hc0 : (us s)[k]? = some ((us s).getD k 0) := by
         rw [List.getD_eq_getElem?_getD, List.getElem?_eq_getElem (by rw [HU.out]; exact hkn)]; rfl
        obtain ⟨c, hd1, hd2⟩ := Bw (L := us s) (k := k) (by rw [HU.out]; exact hkn)
        have hc : (us s).getD k 0 = c := by
         have h3 : ((us s).drop k)[0]? = (us s)[k]? := List.getElem?_drop
         rw [hd1, hc0] at h3
         exact (Option.some.inj h3).symm
        rw [hd1] at C2
        have C2 := Lh (show ∀ W, Cp 48 #[.string s, .int .i64 k] W fun e w' => e = .returned (.tuple #[.int .u16 (c : Nat), .bool true]) ∧ ∃ n, w' = W.drewN n from C2)
        have hkS : i + 1 + k < wdsS.size := by rw [HS.out]; have := HLT.out; omega
        have hbk := Sn (i + 1 + k) hkS
        have hq : wdQ (us s) i k = (c == wdsT.getD (i + 1 + k) 0 && c != 32) := by unfold wdQ; rw [hc]
        obtain ⟨y, hy⟩ : ∃ y, wdsT.getD (i + 1 + k) 0 = y := ⟨_, rfl⟩
        rw [hy] at hbk hq
        have hyl : y < 256 := by rw [← hbk]; exact (wdsS[i + 1 + k]'hkS).toNat_lt
        have hw : IntKind.u16.wrap (((wdsS[i + 1 + k]'hkS).toNat : Nat) : Int) = (y : Int) := by rw [hbk]; exact IntWalk.u16_in _ (by omega)
        have HB2 : ∀ b' : Bool, b' = (b && wdQ (us s) i k) → Hid (b' = (List.range (k + 1)).all (wdQ (us s) i)) := fun b' h => Lh (by rw [Of, ← HB.out, h])
        rw [hq] at HB2
        clear hc0 hd1 hd2 hc hbk hq hy
        cases b
        ·have HB3 := HB2 false rfl
         clear HB2 hw hyl HB
         go_wp2_with fail
         refine Dm (C2.out _) fun n2 => ?_
         go_wp2
         go_roundw
         case rel => exact ⟨false, k + 1, rfl, by go_num, hkn, HB3, n1 + n2, by first | rfl | simp⟩
         case measure => simp [intOf]; omega
        ·by_cases e3 : c = y
         ·have g3 : ((c : Int) == IntKind.u16.wrap (((wdsS[i + 1 + k]'hkS).toNat : Nat) : Int)) = true := by rw [hw, e3]; simp
          by_cases e4 : c = 32
          ·have g4 : ((c : Int) != 32) = false := by rw [e4]; rfl
           have HB3 := HB2 false (by rw [e4]; simp)
           clear HB2 hw hyl HB e3 e4
           go_wp2_with fail
           refine Dm (C2.out _) fun n2 => ?_
           go_wp2
           go_roundw
           case rel => exact ⟨false, k + 1, rfl, by go_num, hkn, HB3, n1 + n2, by first | rfl | simp⟩
           case measure => simp [intOf]; omega
          ·have g4 : ((c : Int) != 32) = true := by rw [bne_iff_ne]; omega
           have HB3 := HB2 true (by rw [e3]; rw [e3] at e4; simp [e4])
           clear HB2 hw hyl HB e3 e4
           go_wp2_with fail
           refine Dm (C2.out _) fun n2 => ?_
           go_wp2
           go_roundw
           case rel => exact ⟨true, k + 1, rfl, by go_num, hkn, HB3, n1 + n2, by first | rfl | simp⟩
           case measure => simp [intOf]; omega
         ·have g3 : ((c : Int) == IntKind.u16.wrap (((wdsS[i + 1 + k]'hkS).toNat : Nat) : Int)) = false := by rw [hw, beq_eq_false_iff_ne]; omega
          have HB3 := HB2 false (by rw [show (c == y) = false by rw [beq_eq_false_iff_ne]; exact e3]; rfl)
          clear HB2 hw hyl HB e3
          go_wp2_with fail
          refine Dm (C2.out _) fun n2 => ?_
          go_wp2
          go_roundw
          case rel => exact ⟨false, k + 1, rfl, by go_num, hkn, HB3, n1 + n2, by first | rfl | simp⟩
          case measure => simp [intOf]; omega
       ·obtain rfl : k = n := by omega
        have t3 : ¬ (k : Int) < (k : Int) := by omega
        have HB3 : Hid (Ie (us s) i = b) := Lh (by rw [HW.out, HB.out])
        clear t3
        cases b
        ·have HX := HNX.out HB3.out
         go_wp2
         go_roundw
         case rel => exact ⟨i + 1, by go_num, HLT0.out, HX, n1, by first | rfl | simp⟩
         case measure => have := HLT0.out; simp [intOf]; omega
        ·obtain rfl : R = true := HR.out.2 ⟨i, HB3.out⟩
         go_wp2
         go_ret
         exact ⟨rfl, n1, by first | rfl | simp⟩
     ·have b2 : ((((wdsS[i + n + 1]'hjS).toNat : Nat) : Int) != 32) = true := by rw [hb1, bne_iff_ne]; omega
      have HX := HNX.out (M0 (.inr (.inr (by rw [HU.out]; exact e2))) hlt)
      have HLT0 := Lh hlt
      clear hb0 hb1 e1 e2 hlt
      go_wp2
      go_roundw
      case rel => exact ⟨i + 1, by go_num, HLT0.out, HX, n0, by first | rfl | simp⟩
      case measure => have := HLT0.out; simp [intOf]; omega
    ·have t2 : ¬ (i : Int) + (n : Int) + 1 < 289 := by omega
     have t4 : (289 : Int) ≤ (i : Int) + (n : Int) + 1 := by omega
     have HX := HNX.out (M0 (.inr (.inl (by rw [HU.out]; exact h2))) hlt)
     have HLT0 := Lh hlt
     clear hb0 e1 hlt
     go_wp2
     go_roundw
     case rel => exact ⟨i + 1, by go_num, HLT0.out, HX, n0, by first | rfl | simp⟩
     case measure => have := HLT0.out; simp [intOf]; omega
   ·have b1 : ¬ (((wdsS[i]'hiS).toNat : Nat) : Int) = 32 := by rw [hb0]; omega
    have b1' : ((((wdsS[i]'hiS).toNat : Nat) : Int) != 32) = true := by rw [bne_iff_ne]; exact b1
    have HX := HNX.out (M0 (.inl e1) hlt)
    have HLT0 := Lh hlt
    clear hb0 e1 hlt
    go_wp2
    go_roundw
    case rel => exact ⟨i + 1, by go_num, HLT0.out, HX, n0, by first | rfl | simp⟩
    case measure => have := HLT0.out; simp [intOf]; omega
  ·obtain rfl : i = 289 := by omega
   obtain rfl : R = false := by
    rw [Bool.eq_false_iff]
    intro h
    obtain ⟨i, hi⟩ := HR.out.1 h
    rcases Nat.lt_or_ge i 289 with h1 | h1
    ·rw [HJ.out i h1] at hi; cases hi
    ·rw [Agr h1] at hi; cases hi
   clear HJ hge hil
   go_wp2
   go_ret
   exact ⟨rfl, n0, by first | rfl | simp⟩

end
section
def TkZ (i : Nat) (o : Option (Nat × List Nat × Nat × Bool × Nat)) (e : Ending) : Prop :=
 match o with
 | none => ∃ (kd : Int) (tx : ByteArray) (x : Nat) (es nl : Bool) (po fi : Int), e = .returned (.tuple #[.agg #[.int .i64 kd, .string tx, .float .f64 x, .bool es, .bool nl, .int .i64 po, .int .i64 fi], .bool false])
 | some (k, t, x, es, n) => e = .returned (.tuple #[tkV k ⟨(bL t).toArray⟩ x es false i (i + n), .bool true])
theorem Vl (s : ByteArray) (k c : Nat) (w : World) (hs : s.size ≤ 4398046511104) (hk : k < ln s) (hc : hd0 ((us s).drop k) = c) (h : (stN c || c == 92) = true) :
  Cp 40 #[.string s, .int .i64 k] w fun e w' => TkZ k ((Nj ((us s).drop k)).map fun p => (if Il p.1 = true then 3 else 2, p.1, 0, p.2.1, p.2.2)) e ∧ Below w.heap.size w w' := by
 have hs63 : s.size ≤ maxLen := by unfold maxLen; omega
 have hln := Ap s
 have hzc : zU ((us s).drop k) = c := by
  rcases hd : (us s).drop k with _ | ⟨a, r⟩
  ·exfalso; rw [List.drop_eq_nil_iff, Ab] at hd; omega
  ·rw [hd] at hc; exact hc
 have C0 := fun W => Ce s k W hs63
 rw [hzc] at C0
 have C0 := Lh C0
 have CN := fun W => Ab9 s k W hs (by omega)
 have CT := fun W => Du (c : Int) W
 have hnl : Hr k [] false s = (Nj ((us s).drop k)).map fun p => (p.1, p.2.1, k + p.2.2) := by
  unfold Hr Jb Nj
  simp
 rw [hnl] at CN
 obtain ⟨o, ho⟩ : ∃ o, Nj ((us s).drop k) = o := ⟨_, rfl⟩
 have hsm : ∀ p, o = some p → p.1.length ≤ ln s ∧ ∀ u ∈ p.1, u < 65536 := by
  intro p hp
  rw [← ho] at hp
  exact Acy hp
 rw [ho] at CN ⊢
 have T0 := Lh (TB.start w)
 have hkl : (k : Int) ≤ 2199023255552 := by omega
 have hlb : ln s ≤ 2199023255552 := by omega
 clear hs hs63 hln hk hc hzc hnl ho
 cases o with
 | none =>
  have CN := Lh (show ∀ W, Cp 75 #[.string s, .int .i64 k] W fun e w' => e = .returned (.tuple #[.string ⟨#[]⟩, .bool false, .int .i64 0, .bool false]) ∧ Below W.heap.size W w' from CN)
  have CR := fun W => It ⟨#[]⟩ W (by decide)
  rw [show Il (us ⟨#[]⟩) = false by decide +kernel] at CR
  have CR := Lh CR
  cases hst : stN c
  ·rw [show stB (c : Int) = false from hst] at CT
   have CT := Lh CT
   have h92 : c = 92 := by rw [hst] at h; simpa using h
   subst h92
   clear h hst hsm
   go_enter Tryz.func40, Tryz.ntmps40
   go_wp2_with fail
   refine Dm (C0.out _) fun n0 => ?_
   go_wp2_with fail
   refine Sm (CT.out _) ?_
   go_wp2_with fail
   refine Bm (CN.out _) fun w1 b1 => ?_
   have T1 := (T0.out.draw n0).step b1
   go_wp2_with fail
   refine Dm (CR.out _) fun n2 => ?_
   have T2 := T1.draw n2
   have HG := Lh T2.bl
   have HB := Lh T2.bw
   clear T1 T2 b1
   go_wp2_with (refine tkS rfl rfl w.heap.size 2 ⟨#[]⟩ 0 false false (k : Int) 0 rfl rfl HG.out ?_)
   refine tkR rfl rfl HG.out rfl rfl ⟨?_, Ae HB.out (Nat.le_refl _) _⟩
   exact ⟨_, _, _, _, _, _, _, rfl⟩
  ·rw [show stB (c : Int) = true from hst] at CT
   have CT := Lh CT
   clear h hst hsm
   go_enter Tryz.func40, Tryz.ntmps40
   go_wp2_with fail
   refine Dm (C0.out _) fun n0 => ?_
   go_wp2_with fail
   refine Sm (CT.out _) ?_
   go_wp2_with fail
   refine Bm (CN.out _) fun w1 b1 => ?_
   have T1 := (T0.out.draw n0).step b1
   go_wp2_with fail
   refine Dm (CR.out _) fun n2 => ?_
   have T2 := T1.draw n2
   have HG := Lh T2.bl
   have HB := Lh T2.bw
   clear T1 T2 b1
   go_wp2_with (refine tkS rfl rfl w.heap.size 2 ⟨#[]⟩ 0 false false (k : Int) 0 rfl rfl HG.out ?_)
   refine tkR rfl rfl HG.out rfl rfl ⟨?_, Ae HB.out (Nat.le_refl _) _⟩
   exact ⟨_, _, _, _, _, _, _, rfl⟩
 | some p =>
  obtain ⟨hp1, hp2⟩ := hsm p rfl
  obtain ⟨t, es, n⟩ := p
  obtain ⟨X, hX⟩ : ∃ X : ByteArray, (⟨(bL t).toArray⟩ : ByteArray) = X := ⟨_, rfl⟩
  have hXu : us X = t := by rw [← hX]; exact Zx hp2
  have hXs : X.size ≤ 17592186044416 := by
   rw [← hX]
   show (bL t).toArray.size ≤ _
   rw [List.size_toArray, Dl]
   have : t.length ≤ ln s := hp1
   omega
  have CR := fun W => It X W hXs
  rw [hXu] at CR
  obtain ⟨m, hm⟩ : ∃ m, k + n = m := ⟨_, rfl⟩
  have CN := Lh (show ∀ W, Cp 75 #[.string s, .int .i64 k] W fun e w' => e = .returned (.tuple #[.string X, .bool es, .int .i64 (m : Nat), .bool true]) ∧ Below W.heap.size W w' from fun W => (CN W).mono fun e w' ⟨he, hb⟩ => ⟨by rw [he, ← hX, ← hm]; rfl, hb⟩)
  obtain ⟨rb, hrb⟩ : ∃ rb, Il t = rb := ⟨_, rfl⟩
  have HE := Lh (show ∀ e, e = Ending.returned (.tuple #[.agg #[.int .i64 (if rb = true then 3 else 2), .string X, .float .f64 0, .bool es, .bool false, .int .i64 (k : Int), .int .i64 (m : Int)], .bool true]) → TkZ k ((some (t, es, n)).map fun p => (if Il p.1 = true then 3 else 2, p.1, 0, p.2.1, p.2.2)) e from by
   intro e he
   rw [he]
   show _ = Ending.returned (.tuple #[tkV (if Il t = true then 3 else 2) ⟨(bL t).toArray⟩ 0 es false k (k + n), .bool true])
   rw [hrb, hX, hm]
   cases rb <;> rfl)
  rw [hrb] at CR
  have CR := Lh CR
  clear hX hXu hXs hm hrb hp1 hp2 hsm
  cases hst : stN c
  ·rw [show stB (c : Int) = false from hst] at CT
   have CT := Lh CT
   have h92 : c = 92 := by rw [hst] at h; simpa using h
   subst h92
   clear h hst
   cases rb
   all_goals
    go_enter Tryz.func40, Tryz.ntmps40
    go_wp2_with fail
    refine Dm (C0.out _) fun n0 => ?_
    go_wp2_with fail
    refine Sm (CT.out _) ?_
    go_wp2_with fail
    refine Bm (CN.out _) fun w1 b1 => ?_
    have T1 := (T0.out.draw n0).step b1
    go_wp2_with fail
    refine Dm (CR.out _) fun n2 => ?_
    have T2 := T1.draw n2
    have HG := Lh T2.bl
    have HB := Lh T2.bw
    clear T1 T2 b1
    go_wp2_with (first | (refine tkS rfl rfl w.heap.size 2 X 0 es false (k : Int) (m : Int) rfl rfl HG.out ?_) | (refine tkS rfl rfl w.heap.size 3 X 0 es false (k : Int) (m : Int) rfl rfl HG.out ?_))
    refine tkR rfl rfl HG.out rfl rfl ⟨?_, Ae HB.out (Nat.le_refl _) _⟩
    exact HE.out _ rfl
  ·rw [show stB (c : Int) = true from hst] at CT
   have CT := Lh CT
   clear h hst
   cases rb
   all_goals
    go_enter Tryz.func40, Tryz.ntmps40
    go_wp2_with fail
    refine Dm (C0.out _) fun n0 => ?_
    go_wp2_with fail
    refine Sm (CT.out _) ?_
    go_wp2_with fail
    refine Bm (CN.out _) fun w1 b1 => ?_
    have T1 := (T0.out.draw n0).step b1
    go_wp2_with fail
    refine Dm (CR.out _) fun n2 => ?_
    have T2 := T1.draw n2
    have HG := Lh T2.bl
    have HB := Lh T2.bw
    clear T1 T2 b1
    go_wp2_with (first | (refine tkS rfl rfl w.heap.size 2 X 0 es false (k : Int) (m : Int) rfl rfl HG.out ?_) | (refine tkS rfl rfl w.heap.size 3 X 0 es false (k : Int) (m : Int) rfl rfl HG.out ?_))
    refine tkR rfl rfl HG.out rfl rfl ⟨?_, Ae HB.out (Nat.le_refl _) _⟩
    exact HE.out _ rfl
theorem Ww (s : ByteArray) (k c : Nat) (w : World) (hs : s.size ≤ 4398046511104) (hk : k < ln s) (hc : hd0 ((us s).drop k) = c) (h : c = 34 ∨ c = 39) :
  Cp 40 #[.string s, .int .i64 k] w fun e w' => TkZ k ((Fa c ((us s).drop (k + 1))).map fun p => (6, p.1, 0, false, 1 + p.2)) e ∧ Below w.heap.size w w' := by
 have hs63 : s.size ≤ maxLen := by unfold maxLen; omega
 have hln := Ap s
 have hzc : zU ((us s).drop k) = c := by
  rcases hd : (us s).drop k with _ | ⟨a, r⟩
  ·exfalso; rw [List.drop_eq_nil_iff, Ab] at hd; omega
  ·rw [hd] at hc; exact hc
 have C0 := fun W => Ce s k W hs63
 rw [hzc] at C0
 have C0 := Lh C0
 have CS := fun W => Aeh s k c W (by omega) hk hc (by rcases h with rfl | rfl <;> decide)
 have CT := fun W => Du (c : Int) W
 have CD := fun W => Bn c W
 rw [show stB (c : Int) = false by rcases h with rfl | rfl <;> decide] at CT
 rw [show Ah c = false by rcases h with rfl | rfl <;> decide] at CD
 have CT := Lh CT
 have CD := Lh CD
 obtain ⟨o, ho⟩ : ∃ o, Fa c ((us s).drop (k + 1)) = o := ⟨_, rfl⟩
 rw [ho] at CS ⊢
 have T0 := Lh (TB.start w)
 have hkl : (k : Int) ≤ 2199023255552 := by omega
 clear hs hs63 hln hk hc hzc ho
 cases o with
 | none =>
  have CS := Lh (show ∀ W, Cp 80 #[.string s, .int .i64 k] W fun e w' => e = .returned (.tuple #[.string ⟨#[]⟩, .int .i64 0, .bool false]) ∧ Below W.heap.size W w' from CS)
  rcases h with rfl | rfl
  all_goals
   go_enter Tryz.func40, Tryz.ntmps40
   go_wp2_with fail
   refine Dm (C0.out _) fun n0 => ?_
   go_wp2_with fail
   refine Sm (CT.out _) ?_
   go_wp2_with fail
   refine Sm (CD.out _) ?_
   go_wp2_with fail
   refine Bm (CS.out _) fun w1 b1 => ?_
   have T1 := (T0.out.draw n0).step b1
   have HG := Lh T1.bl
   have HB := Lh T1.bw
   clear T1 b1
   go_wp2_with (refine tkS rfl rfl w.heap.size 6 ⟨#[]⟩ 0 false false (k : Int) 0 rfl rfl HG.out ?_)
   refine tkR rfl rfl HG.out rfl rfl ⟨?_, Ae HB.out (Nat.le_refl _) _⟩
   exact ⟨_, _, _, _, _, _, _, rfl⟩
 | some p =>
  obtain ⟨t, n⟩ := p
  obtain ⟨X, hX⟩ : ∃ X : ByteArray, (⟨(bL t).toArray⟩ : ByteArray) = X := ⟨_, rfl⟩
  obtain ⟨m, hm⟩ : ∃ m, k + 1 + n = m := ⟨_, rfl⟩
  have CS := Lh (show ∀ W, Cp 80 #[.string s, .int .i64 k] W fun e w' => e = .returned (.tuple #[.string X, .int .i64 (m : Nat), .bool true]) ∧ Below W.heap.size W w' from fun W => (CS W).mono fun e w' ⟨he, hb⟩ => ⟨by rw [he, ← hX, ← hm]; rfl, hb⟩)
  have HE := Lh (show ∀ e, e = Ending.returned (.tuple #[.agg #[.int .i64 6, .string X, .float .f64 0, .bool false, .bool false, .int .i64 (k : Int), .int .i64 (m : Int)], .bool true]) → TkZ k ((some (t, n)).map fun p => (6, p.1, 0, false, 1 + p.2)) e from by
   intro e he
   rw [he]
   show _ = Ending.returned (.tuple #[tkV 6 ⟨(bL t).toArray⟩ 0 false false k (k + (1 + n)), .bool true])
   rw [hX, show k + (1 + n) = m by omega]
   rfl)
  clear hX hm
  rcases h with rfl | rfl
  all_goals
   go_enter Tryz.func40, Tryz.ntmps40
   go_wp2_with fail
   refine Dm (C0.out _) fun n0 => ?_
   go_wp2_with fail
   refine Sm (CT.out _) ?_
   go_wp2_with fail
   refine Sm (CD.out _) ?_
   go_wp2_with fail
   refine Bm (CS.out _) fun w1 b1 => ?_
   have T1 := (T0.out.draw n0).step b1
   have HG := Lh T1.bl
   have HB := Lh T1.bw
   clear T1 b1
   go_wp2_with (refine tkS rfl rfl w.heap.size 6 X 0 false false (k : Int) (m : Int) rfl rfl HG.out ?_)
   refine tkR rfl rfl HG.out rfl rfl ⟨?_, Ae HB.out (Nat.le_refl _) _⟩
   exact HE.out _ rfl

end
section
def nr1 (u : Nat) : Nat := if 127 < u then 1 else u
theorem Ajc (u : Nat) : nr1 u < 128 := by unfold nr1; split <;> omega
theorem Xi (s : ByteArray) (w : World) (hs : s.size ≤ 140737488355328) :
  Ct 114 #[.string s] (.string (Ad (nrw 1 (us s)))) w := by
 obtain ⟨i0, hi, hz0, hz1, hz2⟩ := info_parts Akg
 have hl := Ap s
 have hs63 : s.size ≤ maxLen := by unfold maxLen; omega
 have hm : ((ln s : Nat) : Int) ≤ 70368744177664 := by omega
 have C1 := Lh (fun W => Cw s W hs63)
 have C2 := Lh (fun i W => Pb s i W hs63)
 have HS := Lh (show ln s ≤ 70368744177664 by omega)
 clear hl hs hs63
 go_enter Tryz.func114, Tryz.ntmps114
 go_wp2
 go_loopw [3, 4] (fun v i wr => ∃ k : Nat, i = .int .i64 k ∧ k ≤ ln s ∧ Hid (Own w.heap.size ((((us s).take k).map nr1).map UInt8.ofNat) v wr) ∧ Hid (Below w.heap.size w wr)) (fun _ i _ => ln s - (intOf i).toNat)
 case atStart => exact ⟨0, rfl, Nat.zero_le _, Lh (Own.nil _ _), Lh (Below.refl _ _)⟩
 case round =>
  obtain ⟨k, rfl, hk, HO, HB⟩ := hrel
  by_cases hlt : k < ln s
  ·have C2k := Lh (C2.out (k : Int) wr)
   have hok : Gf s (k : Int) = true := by unfold Gf; rw [decide_eq_true (by omega), decide_eq_true (by omega)]; rfl
   have hv : unV s (k : Int) = un s k := by unfold unV; rw [hok, if_pos rfl, Int.toNat_natCast]
   rw [hok, hv] at C2k
   have hul := Pw s k
   have HST := Lh (Jf s k hlt)
   obtain ⟨u, hu⟩ : ∃ u, un s k = u := ⟨_, rfl⟩
   rw [hu] at hul HST C2k
   have a2 : (k : Int) < (ln s : Int) := by omega
   clear hok hv hu
   have hc1 := Ajc u
   have KEY := Lh (show ∀ v' w2, w2.ownsRow w.heap.size 5 1 v' (((((us s).take k).map nr1).map UInt8.ofNat).length + 1) (Lib.byteCells ((((us s).take k).map nr1).map UInt8.ofNat) ++ [.int .u8 (nr1 u : Nat)]) → Own w.heap.size ((((us s).take (k + 1)).map nr1).map UInt8.ofNat) v' w2 from fun v' w2 h => by
    rw [Oj _ _ (by omega)] at h
    rw [Own, HST.out, List.map_append, List.map_append]
    simpa using h)
   by_cases hb : 127 < u
   ·have t1 : decide ((127 : Int) < (u : Int)) = true := decide_eq_true (by omega)
    have e0 : nr1 u = 1 := if_pos hb
    rw [e0] at KEY
    go_wp2_with fail
    refine Sm (C1.out _) ?_
    go_wp2_with fail
    refine C2k.out.mono ?_
    rintro e w' ⟨rfl, n, rfl⟩
    have HOn := Ql HO.out n
    have hBn : w.heap.size ≤ (wr.drewN n).heap.size := HB.out.size
    have HBn := Lh (Ac HB.out n)
    generalize wr.drewN n = wn at *
    go_wp2_with (at_builtin; refine wpList_append_own _ rfl _ _ 60 rfl w.heap.size 5 i0 (.int .u8 0) 1 1 Tryz.underlying60 hi hz0 hz1 hz2 rfl (by decide) _ ((((us s).take k).map nr1).map UInt8.ofNat).length (Lib.byteCells ((((us s).take k).map nr1).map UInt8.ofNat)) rfl (World.ownsRow.alloc (w := wn) HOn _) ⟨wn.heap.size, 0, none⟩ 1 1 [.int .u8 1] rfl rfl ?c1 ?c2 ?c3 ?c4 ?c5 ?_)
    case c1 => exact (cell_one_new _ _ _)
    case c2 => simp [Value.oneCell']
    case c3 => rw [List.length_map, List.length_map, List.length_take]; have := HS.out; unfold maxLen; omega
    case c4 => rw [List.length_map, List.length_map, List.length_take]; have := HS.out; omega
    case c5 => simp; omega
    intro v' w2 hown hgr _
    have HO2 := Lh (KEY.out v' w2 (by simpa using hown))
    have HB2 := Lh (HBn.out.trans (((Below.refl _ _).alloc hBn _).grown hgr (by simp; omega) (fun j hj => (HOn.lt j hj).1)))
    clear hown hgr
    go_wp2
    exact ⟨⟨k + 1, by go_num, by omega, HO2, HB2⟩, by simp [intOf]; omega⟩
   ·have t1 : decide ((127 : Int) < (u : Int)) = false := decide_eq_false (by omega)
    have e0 : nr1 u = u := if_neg hb
    rw [e0] at KEY
    have k1 : IntKind.u8.wrap (u : Int) = (u : Int) := IntWalk.u8_in _ (by omega)
    go_wp2_with fail
    refine Sm (C1.out _) ?_
    go_wp2_with fail
    refine C2k.out.mono ?_
    rintro e w' ⟨rfl, n, rfl⟩
    have HOn := Ql HO.out n
    have hBn : w.heap.size ≤ (wr.drewN n).heap.size := HB.out.size
    have HBn := Lh (Ac HB.out n)
    generalize wr.drewN n = wn at *
    go_wp2_with (at_builtin; refine wpList_append_own _ rfl _ _ 60 rfl w.heap.size 5 i0 (.int .u8 0) 1 1 Tryz.underlying60 hi hz0 hz1 hz2 rfl (by decide) _ ((((us s).take k).map nr1).map UInt8.ofNat).length (Lib.byteCells ((((us s).take k).map nr1).map UInt8.ofNat)) rfl (World.ownsRow.alloc (w := wn) HOn _) ⟨wn.heap.size, 0, none⟩ 1 1 [.int .u8 (u : Nat)] rfl rfl ?c1 ?c2 ?c3 ?c4 ?c5 ?_)
    case c1 => exact (cell_one_new _ _ _)
    case c2 => simp [Value.oneCell']
    case c3 => rw [List.length_map, List.length_map, List.length_take]; have := HS.out; unfold maxLen; omega
    case c4 => rw [List.length_map, List.length_map, List.length_take]; have := HS.out; omega
    case c5 => simp; omega
    intro v' w2 hown hgr _
    have HO2 := Lh (KEY.out v' w2 (by simpa using hown))
    have HB2 := Lh (HBn.out.trans (((Below.refl _ _).alloc hBn _).grown hgr (by simp; omega) (fun j hj => (HOn.lt j hj).1)))
    clear hown hgr
    go_wp2
    exact ⟨⟨k + 1, by go_num, by omega, HO2, HB2⟩, by simp [intOf]; omega⟩
  ·obtain ⟨T, hT⟩ : ∃ T, (((us s).take k).map nr1).map UInt8.ofNat = T := ⟨_, rfl⟩
   have hcv := Gx HO.out
   rw [hT] at hcv
   have HZ := Lh (show (⟨T.toArray⟩ : ByteArray) = Ad (nrw 1 (us s)) from by
    rw [← hT, show (us s).take k = us s by rw [show k = ln s by omega, Lr]]
    rfl)
   clear hT HO
   go_wp2_with fail
   refine Sm (C1.out _) ?_
   go_wp2
   go_ret
   exact ⟨by rw [← HZ.out]; rfl, HB.out⟩
theorem Iz (c : Nat) (w : World) : Cq 117 #[.int .u8 c] (.bool (Ah c)) w := by
 by_cases h1 : 48 ≤ c
 ·by_cases h2 : c ≤ 57
  ·have t1 : decide ((48 : Int) ≤ (c : Int)) = true := decide_eq_true (by omega)
   have t2 : decide ((c : Int) ≤ 57) = true := decide_eq_true (by omega)
   rw [Ca.2 ⟨h1, h2⟩]
   clear h1 h2
   go_enter Tryz.func117, Tryz.ntmps117
   go_wp2
   go_ret
   exact ⟨rfl, rfl⟩
  ·have t1 : decide ((48 : Int) ≤ (c : Int)) = true := decide_eq_true (by omega)
   have t2 : decide ((c : Int) ≤ 57) = false := decide_eq_false (by omega)
   rw [Uk.2 (fun h => h2 h.2)]
   clear h1 h2
   go_enter Tryz.func117, Tryz.ntmps117
   go_wp2
   go_ret
   exact ⟨rfl, rfl⟩
 ·have t1 : decide ((48 : Int) ≤ (c : Int)) = false := decide_eq_false (by omega)
  rw [Uk.2 (fun h => h1 h.1)]
  clear h1
  go_enter Tryz.func117, Tryz.ntmps117
  go_wp2
  go_ret
  exact ⟨rfl, rfl⟩


end
section
theorem Adh : bln 10 = 4 := by decide
theorem Ta (n : Nat) (w : World) (hn : n ≤ 3000) : Cp 315 #[.int .i64 n] w (NRet (10 ^ n) w) := by
 have hn1 : (n : Int) ≤ 3000 := by omega
 have N0 := Lh (NV.lit w 1 (by omega) (by omega))
 have B0 := Lh (show Below w.heap.size w (w.alloc (.cells #[.int .u32 1] 156)) from (Below.refl _ _).alloc (Nat.le_refl _) _)
 go_enter Tryz.func315, Tryz.ntmps315
 go_wp2
 go_loopw [3, 4] (fun v i wr => ∃ (k : Nat) (A : Option Addr) (m c : Nat), i = .int .i64 k ∧ k ≤ n ∧ v = .slice A m c ∧ Hid (NV wr A m c (10 ^ k)) ∧ Hid (Below w.heap.size w wr)) (fun _ i _ => n - (intOf i).toNat)
 case atStart => exact ⟨0, _, _, _, rfl, Nat.zero_le _, rfl, N0, B0⟩
 case round =>
  obtain ⟨k, A, m, c, rfl, hk, rfl, HV, HB⟩ := hrel
  by_cases hlt : k < n
  ·have hlt' : (k : Int) < (n : Int) := by omega
   have hb := Gs k
   have b1 : Below wr.heap.size wr (wr.alloc (.cells #[.int .u32 10] 156)) := (Below.refl _ _).alloc (Nat.le_refl _) _
   have C1 := Lh (Z3 (HV.out.step b1) (NV.lit wr 10 (by omega) (by omega)) (by omega) (by rw [Adh]; omega))
   have HB1 := Lh (Aa HB.out b1)
   rw [← Nat.pow_succ] at C1
   clear hb b1
   go_wp2_with fail
   refine C1.out.mono ?_
   rintro e w2 ⟨A2, m2, c2, rfl, g2, b2⟩
   have G2 := Lh g2
   have HB2 := Lh (Aa HB1.out b2)
   clear g2 b2
   go_wp2
   exact ⟨⟨k + 1, A2, m2, c2, by go_num, by omega, rfl, G2, HB2⟩, by simp [intOf]; omega⟩
  ·have HZ := Lh (show k = n by omega)
   go_wp2
   go_ret
   exact ⟨A, m, c, rfl, by rw [← HZ.out]; exact HV.out, HB.out⟩
theorem Qi (l : List Nat) (k : Nat) (h : k < l.length) : l.drop k = l[k] :: l.drop (k + 1) := List.drop_eq_getElem_cons h
theorem Aa4 {c : Nat} {t : List Nat} (h : Ah c = true) : Af (c :: t) = c :: Af t := List.takeWhile_cons_of_pos h
theorem Ael {c : Nat} {t : List Nat} (h : Ah c = false) : Af (c :: t) = [] := List.takeWhile_cons_of_neg (by rw [h]; simp)
theorem M6 (s : ByteArray) (at' : Nat) (w : World) (hs : s.size ≤ 140737488355328) (ha : at' ≤ 140737488355328) :
  Cq 203 #[.string s, .int .i64 at'] (.int .i64 ((Af ((bl s).drop at')).length : Nat)) w := by
 have h1 : (s.size : Int) ≤ 140737488355328 := by omega
 have h2 : (at' : Int) ≤ 140737488355328 := by omega
 have C1 := Lh (fun c W => Iz c W)
 obtain ⟨R, hR⟩ : ∃ R, (Af ((bl s).drop at')).length = R := ⟨_, rfl⟩
 rw [hR]
 have HR := Lh hR
 have HL := Lh (Bj s)
 clear hs ha hR
 go_enter Tryz.func203, Tryz.ntmps203
 go_wp2
 go_loopw [5] (fun i wr => ∃ j : Nat, i = .int .i64 j ∧ Hid (R = j + (Af ((bl s).drop (at' + j))).length ∧ (j = 0 ∨ at' + j ≤ s.size)) ∧ w = wr) (fun i _ => s.size - (intOf i).toNat)
 case atStart => exact ⟨0, rfl, Lh ⟨by rw [Nat.add_zero, Nat.zero_add, HR.out], Or.inl rfl⟩, rfl⟩
 case round =>
  obtain ⟨j, rfl, HJ, rfl⟩ := hrel
  have hj : (j : Int) ≤ 140737488355328 := by rcases HJ.out.2 with h | h <;> omega
  have k1 : IntKind.i64.wrap ((at' : Int) + (j : Int)) = (at' : Int) + (j : Int) := IntWalk.i64_in _ (by omega)
  by_cases hlt : at' + j < s.size
  ·obtain ⟨B, hB⟩ : ∃ B : Nat, (s[at' + j]'hlt).toNat = B := ⟨_, rfl⟩
   have hll : at' + j < (bl s).length := by rw [HL.out]; exact hlt
   have hget : (bl s)[at' + j] = B := by
    have := Cg s (at' + j) hlt
    rw [List.getElem?_eq_getElem hll, hB] at this
    exact Option.some.inj this
   have hd := Qi (bl s) (at' + j) hll
   rw [hget] at hd
   have a3 : ((s[at' + j]'hlt).toNat : Int) = (B : Int) := by rw [hB]
   have t0 : decide ((at' : Int) + (j : Int) < (s.size : Int)) = true := decide_eq_true (by omega)
   have a1 : (0 : Int) ≤ (at' : Int) + (j : Int) := by omega
   have a2 : (at' : Int) + (j : Int) < (s.size : Int) := by omega
   have a4 : ((at' : Int) + (j : Int)).toNat = at' + j := by omega
   have C2 := Lh (C1.out B)
   cases hg : Ah B
   ·rw [hg] at C2
    have HE := Lh (show R = j from by have := HJ.out.1; rw [hd, Ael hg] at this; exact this)
    clear hget hd hB hg hll
    go_wp2_with fail
    refine Sm (C2.out _) ?_
    go_wp2
    go_ret
    exact ⟨by rw [HE.out]; rfl, rfl⟩
   ·rw [hg] at C2
    have HE := Lh (show R = (j + 1) + (Af ((bl s).drop (at' + (j + 1)))).length ∧ (j + 1 = 0 ∨ at' + (j + 1) ≤ s.size) from by
     have := HJ.out.1
     rw [hd, Aa4 hg, List.length_cons] at this
     exact ⟨by rw [← Nat.add_assoc]; omega, Or.inr (by omega)⟩)
    clear hget hd hB hg hll
    go_wp2_with fail
    refine Sm (C2.out _) ?_
    go_wp2
    exact ⟨⟨j + 1, by go_num, HE, trivial⟩, by simp [intOf]; omega⟩
  ·have HE := Lh (show R = j from by
    have := HJ.out.1
    rw [List.drop_eq_nil_iff.2 (by rw [HL.out]; omega)] at this
    exact this)
   have t0 : decide ((at' : Int) + (j : Int) < (s.size : Int)) = false := decide_eq_false (by omega)
   go_wp2
   go_ret
   exact ⟨by rw [HE.out]; rfl, rfl⟩


end
section
theorem Abt (s : ByteArray) (K N : Nat) (X : Int) (w : World) (hs : s.size ≤ 281474976710656) (hK : K ≤ s.size) (hN : s.size - K = N)
  (Z1 : Hid (∀ k (h : k < s.size), k < K → (s[k]'h).toNat = 48)) (Z2 : Hid (∀ h : K < s.size, (s[K]'h).toNat ≠ 48))
  (hN0 : N = 0) :
  Ct 267 #[.string s, .int .i64 X] (.float .f64 0) w := by
 have h1 : (s.size : Int) ≤ 281474976710656 := by omega
 have HN := Lh hN
 have HK := Lh hK
 subst hN0
 clear hs hK hN
 go_enter Tryz.func267, Tryz.ntmps267
 go_wp2
 go_loopw [5] (fun i wr => ∃ k : Nat, i = .int .i64 k ∧ k ≤ K ∧ w = wr) (fun i _ => K - (intOf i).toNat)
 case atStart => exact ⟨0, rfl, Nat.zero_le _, rfl⟩
 case round =>
  obtain ⟨k, rfl, hk, rfl⟩ := hrel
  have hk2 := HK.out
  by_cases hlt : k < K
  ·have hks : k < s.size := by omega
   have e0 : ((s[k]'hks).toNat : Int) = 48 := by rw [Z1.out k hks hlt]; rfl
   have a2 : (k : Int) < (s.size : Int) := by omega
   have a1 : (0 : Int) ≤ (k : Int) := by omega
   clear hk2
   go_wp2
   exact ⟨⟨k + 1, by go_num, by omega, trivial⟩, by simp [intOf]; omega⟩
  ·obtain rfl : k = K := by omega
   have a2 : (s.size : Int) = (k : Int) := by have := HN.out; omega
   have a3 : (k : Int) ≤ (s.size : Int) := by omega
   have a1 : (0 : Int) ≤ (k : Int) := by omega
   have a4 : ((s.size - k : Nat) : Int) = 0 := by rw [HN.out]; rfl
   have t1 : decide ((k : Int) < (s.size : Int)) = false := decide_eq_false (by omega)
   clear hk2 a2
   go_wp2
   go_ret
   exact ⟨rfl, Below.refl _ _⟩
theorem Acb (s : ByteArray) (K N : Nat) (X P : Int) (w : World) (hs : s.size ≤ 281474976710656) (hK : K ≤ s.size) (hN : s.size - K = N)
  (Z1 : Hid (∀ k (h : k < s.size), k < K → (s[k]'h).toNat = 48)) (Z2 : Hid (∀ h : K < s.size, (s[K]'h).toNat ≠ 48))
  (hN0 : 0 < N) (p1 : wrap64 ((N : Int) + X) = P) (t0 : ((N : Int) == 0) = false) (t1 : decide (400 < P) = true) :
  Ct 267 #[.string s, .int .i64 X] (.float .f64 9218868437227405312) w := by
 have h1 : (s.size : Int) ≤ 281474976710656 := by omega
 have HN := Lh hN
 have HK := Lh hK
 have HN0 := Lh hN0
 clear hs hK hN hN0
 go_enter Tryz.func267, Tryz.ntmps267
 go_wp2
 go_loopw [5] (fun i wr => ∃ k : Nat, i = .int .i64 k ∧ k ≤ K ∧ w = wr) (fun i _ => K - (intOf i).toNat)
 case atStart => exact ⟨0, rfl, Nat.zero_le _, rfl⟩
 case round =>
  obtain ⟨k, rfl, hk, rfl⟩ := hrel
  have hk2 := HK.out
  by_cases hlt : k < K
  ·have hks : k < s.size := by omega
   have e0 : ((s[k]'hks).toNat : Int) = 48 := by rw [Z1.out k hks hlt]; rfl
   have a2 : (k : Int) < (s.size : Int) := by omega
   have a1 : (0 : Int) ≤ (k : Int) := by omega
   clear hk2
   go_wp2
   exact ⟨⟨k + 1, by go_num, by omega, trivial⟩, by simp [intOf]; omega⟩
  ·obtain rfl : k = K := by omega
   have hz : k < s.size := by have := HN.out; have := HN0.out; omega
   obtain ⟨B, hB⟩ : ∃ B : Nat, (s[k]'hz).toNat = B := ⟨_, rfl⟩
   have hB48 := Z2.out hz
   rw [hB] at hB48
   have e0 : ((s[k]'hz).toNat : Int) = (B : Int) := by rw [hB]
   have e1 : ((B : Int) == 48) = false := by rw [beq_eq_false_iff_ne]; omega
   have a2 : (k : Int) < (s.size : Int) := by omega
   have a1 : (0 : Int) ≤ (k : Int) := by omega
   have a3 : (k : Int) ≤ (s.size : Int) := by omega
   have a4 : ((s.size - k : Nat) : Int) = (N : Int) := by rw [HN.out]
   clear hk2 hB hB48
   have C3 := Lh (fun W => Fi W)
   go_wp2_with fail
   refine Sm (C3.out _) ?_
   go_wp2
   go_ret
   exact ⟨rfl, Below.refl _ _⟩
theorem Ac4 (s : ByteArray) (K N : Nat) (X P : Int) (w : World) (hs : s.size ≤ 281474976710656) (hK : K ≤ s.size) (hN : s.size - K = N)
  (Z1 : Hid (∀ k (h : k < s.size), k < K → (s[k]'h).toNat = 48)) (Z2 : Hid (∀ h : K < s.size, (s[K]'h).toNat ≠ 48))
  (hN0 : 0 < N) (p1 : wrap64 ((N : Int) + X) = P) (t0 : ((N : Int) == 0) = false) (t1 : decide (400 < P) = false) (t2 : decide (P < -400) = true) :
  Ct 267 #[.string s, .int .i64 X] (.float .f64 0) w := by
 have h1 : (s.size : Int) ≤ 281474976710656 := by omega
 have HN := Lh hN
 have HK := Lh hK
 have HN0 := Lh hN0
 clear hs hK hN hN0
 go_enter Tryz.func267, Tryz.ntmps267
 go_wp2
 go_loopw [5] (fun i wr => ∃ k : Nat, i = .int .i64 k ∧ k ≤ K ∧ w = wr) (fun i _ => K - (intOf i).toNat)
 case atStart => exact ⟨0, rfl, Nat.zero_le _, rfl⟩
 case round =>
  obtain ⟨k, rfl, hk, rfl⟩ := hrel
  have hk2 := HK.out
  by_cases hlt : k < K
  ·have hks : k < s.size := by omega
   have e0 : ((s[k]'hks).toNat : Int) = 48 := by rw [Z1.out k hks hlt]; rfl
   have a2 : (k : Int) < (s.size : Int) := by omega
   have a1 : (0 : Int) ≤ (k : Int) := by omega
   clear hk2
   go_wp2
   exact ⟨⟨k + 1, by go_num, by omega, trivial⟩, by simp [intOf]; omega⟩
  ·obtain rfl : k = K := by omega
   have hz : k < s.size := by have := HN.out; have := HN0.out; omega
   obtain ⟨B, hB⟩ : ∃ B : Nat, (s[k]'hz).toNat = B := ⟨_, rfl⟩
   have hB48 := Z2.out hz
   rw [hB] at hB48
   have e0 : ((s[k]'hz).toNat : Int) = (B : Int) := by rw [hB]
   have e1 : ((B : Int) == 48) = false := by rw [beq_eq_false_iff_ne]; omega
   have a2 : (k : Int) < (s.size : Int) := by omega
   have a1 : (0 : Int) ≤ (k : Int) := by omega
   have a3 : (k : Int) ≤ (s.size : Int) := by omega
   have a4 : ((s.size - k : Nat) : Int) = (N : Int) := by rw [HN.out]
   clear hk2 hB hB48
   go_wp2
   go_ret
   exact ⟨rfl, Below.refl _ _⟩
theorem Om (s : ByteArray) (K N : Nat) (X P : Int) (m F : Nat) (D M : Nat) (w : World) (hs : s.size ≤ 281474976710656) (hK : K ≤ s.size) (hN : s.size - K = N)
  (Z1 : Hid (∀ k (h : k < s.size), k < K → (s[k]'h).toNat = 48)) (Z2 : Hid (∀ h : K < s.size, (s[K]'h).toNat ≠ 48))
  (hN0 : 0 < N) (p1 : wrap64 ((N : Int) + X) = P) (t0 : ((N : Int) == 0) = false) (t1 : decide (400 < P) = false) (t2 : decide (P < -400) = false) (t3 : decide (820 < (N : Int)) = false)
  (C3 : Hid (∀ W, Cp 314 #[.string (s.extract K s.size), .int .i64 10] W (NOk m W)))
  (C4 : Hid (∀ W, Cp 315 #[.int .i64 X] W (NRet D W)))
  (C5 : Hid (∀ W A1 n1 c1 A2 n2 c2, NV W A1 n1 c1 m → NV W A2 n2 c2 D → Cp 265 #[.slice A1 n1 c1, .slice A2 n2 c2] W (NRet M W)))
  (C6 : Hid (∀ W A1 n1 c1, NV W A1 n1 c1 M → Ct 266 #[.slice A1 n1 c1, .int .i64 0] (.float .f64 F) W))
  (u0 : decide (0 ≤ X) = true) :
  Ct 267 #[.string s, .int .i64 X] (.float .f64 F) w := by
 have h1 : (s.size : Int) ≤ 281474976710656 := by omega
 have HN := Lh hN
 have HK := Lh hK
 have HN0 := Lh hN0
 clear hs hK hN hN0
 go_enter Tryz.func267, Tryz.ntmps267
 go_wp2
 go_loopw [5] (fun i wr => ∃ k : Nat, i = .int .i64 k ∧ k ≤ K ∧ w = wr) (fun i _ => K - (intOf i).toNat)
 case atStart => exact ⟨0, rfl, Nat.zero_le _, rfl⟩
 case round =>
  obtain ⟨k, rfl, hk, rfl⟩ := hrel
  have hk2 := HK.out
  by_cases hlt : k < K
  ·have hks : k < s.size := by omega
   have e0 : ((s[k]'hks).toNat : Int) = 48 := by rw [Z1.out k hks hlt]; rfl
   have a2 : (k : Int) < (s.size : Int) := by omega
   have a1 : (0 : Int) ≤ (k : Int) := by omega
   clear hk2
   go_wp2
   exact ⟨⟨k + 1, by go_num, by omega, trivial⟩, by simp [intOf]; omega⟩
  ·obtain rfl : k = K := by omega
   have hz : k < s.size := by have := HN.out; have := HN0.out; omega
   obtain ⟨B, hB⟩ : ∃ B : Nat, (s[k]'hz).toNat = B := ⟨_, rfl⟩
   have hB48 := Z2.out hz
   rw [hB] at hB48
   have e0 : ((s[k]'hz).toNat : Int) = (B : Int) := by rw [hB]
   have e1 : ((B : Int) == 48) = false := by rw [beq_eq_false_iff_ne]; omega
   have a2 : (k : Int) < (s.size : Int) := by omega
   have a1 : (0 : Int) ≤ (k : Int) := by omega
   have a3 : (k : Int) ≤ (s.size : Int) := by omega
   have a4 : ((s.size - k : Nat) : Int) = (N : Int) := by rw [HN.out]
   clear hk2 hB hB48
   go_wp2_with fail
   refine (C3.out _).mono ?_
   rintro e w1 ⟨A1, n1, c1, rfl, g1, b1⟩
   have G1 := Lh g1
   have B1 := Lh b1
   clear g1 b1
   go_wp2_with fail
   refine (C4.out _).mono ?_
   rintro e w2 ⟨A2, n2, c2, rfl, g2, b2⟩
   have G2 := Lh g2
   have G1a := Lh (G1.out.step b2)
   have B2 := Lh (Aa B1.out b2)
   clear g2 b2
   go_wp2_with fail
   refine (C5.out _ _ _ _ _ _ _ G1a.out G2.out).mono ?_
   rintro e w3 ⟨A3, n3, c3, rfl, g3, b3⟩
   have G3 := Lh g3
   have B3 := Lh (Aa B2.out b3)
   clear g3 b3
   go_wp2_with fail
   refine Bm (C6.out _ _ _ _ G3.out) fun w4 b4 => ?_
   have B4 := Lh (Aa B3.out b4)
   clear b4
   go_wp2
   go_ret
   exact ⟨rfl, B4.out⟩
theorem Mc (s : ByteArray) (K N : Nat) (X P : Int) (m F : Nat) (D M Q bd ba : Nat) (x1 up x2 Y U : Int) (w : World) (hs : s.size ≤ 281474976710656) (hK : K ≤ s.size) (hN : s.size - K = N)
  (Z1 : Hid (∀ k (h : k < s.size), k < K → (s[k]'h).toNat = 48)) (Z2 : Hid (∀ h : K < s.size, (s[K]'h).toNat ≠ 48))
  (hN0 : 0 < N) (p1 : wrap64 ((N : Int) + X) = P) (t0 : ((N : Int) == 0) = false) (t1 : decide (400 < P) = false) (t2 : decide (P < -400) = false) (t3 : decide (820 < (N : Int)) = false)
  (C3 : Hid (∀ W, Cp 314 #[.string (s.extract K s.size), .int .i64 10] W (NOk m W)))
  (C4 : Hid (∀ W, Cp 315 #[.int .i64 (-X)] W (NRet D W)))
  (C5 : Hid (∀ W A1 n1 c1, NV W A1 n1 c1 D → Ct 311 #[.slice A1 n1 c1] (.int .i64 (bd : Nat)) W))
  (C6 : Hid (∀ W A1 n1 c1, NV W A1 n1 c1 m → Ct 311 #[.slice A1 n1 c1] (.int .i64 (ba : Nat)) W))
  (C7 : Hid (∀ W A1 n1 c1, NV W A1 n1 c1 m → Cp 317 #[.slice A1 n1 c1, .int .i64 U] W (NRet M W)))
  (C8 : Hid (∀ W A1 n1 c1 A2 n2 c2, NV W A1 n1 c1 M → NV W A2 n2 c2 D → Cp 316 #[.slice A1 n1 c1, .slice A2 n2 c2] W (Ul M D W)))
  (C9 : Hid (∀ W A1 n1 c1, NV W A1 n1 c1 (M / D) → Cp 317 #[.slice A1 n1 c1, .int .i64 1] W (NRet Q W)))
  (C11 : Hid (∀ W A1 n1 c1, NV W A1 n1 c1 Q → Ct 266 #[.slice A1 n1 c1, .int .i64 Y] (.float .f64 F) W))
  (hrem : M % D = 0)
  (u0 : decide (0 ≤ X) = false) (u1 : wrap64 (-X) = -X) (u2 : wrap64 ((bd : Int) - (ba : Int)) = x1) (u3 : wrap64 (x1 + 70) = up) (hu : (decide (up < 0) = false ∧ U = up ∧ wrap64 (-up) = x2 ∧ wrap64 (x2 - 1) = Y) ∨ (decide (up < 0) = true ∧ U = 0 ∧ Y = -1)) :
  Ct 267 #[.string s, .int .i64 X] (.float .f64 F) w := by
 have h1 : (s.size : Int) ≤ 281474976710656 := by omega
 have HN := Lh hN
 have HK := Lh hK
 have HN0 := Lh hN0
 have HREM := Lh hrem
 have HUW := Lh hu
 clear hu hs hK hN hN0 hrem
 go_enter Tryz.func267, Tryz.ntmps267
 go_wp2
 go_loopw [5] (fun i wr => ∃ k : Nat, i = .int .i64 k ∧ k ≤ K ∧ w = wr) (fun i _ => K - (intOf i).toNat)
 case atStart => exact ⟨0, rfl, Nat.zero_le _, rfl⟩
 case round =>
  obtain ⟨k, rfl, hk, rfl⟩ := hrel
  have hk2 := HK.out
  by_cases hlt : k < K
  ·have hks : k < s.size := by omega
   have e0 : ((s[k]'hks).toNat : Int) = 48 := by rw [Z1.out k hks hlt]; rfl
   have a2 : (k : Int) < (s.size : Int) := by omega
   have a1 : (0 : Int) ≤ (k : Int) := by omega
   clear hk2
   go_wp2
   exact ⟨⟨k + 1, by go_num, by omega, trivial⟩, by simp [intOf]; omega⟩
  ·obtain rfl : k = K := by omega
   have hz : k < s.size := by have := HN.out; have := HN0.out; omega
   obtain ⟨B, hB⟩ : ∃ B : Nat, (s[k]'hz).toNat = B := ⟨_, rfl⟩
   have hB48 := Z2.out hz
   rw [hB] at hB48
   have e0 : ((s[k]'hz).toNat : Int) = (B : Int) := by rw [hB]
   have e1 : ((B : Int) == 48) = false := by rw [beq_eq_false_iff_ne]; omega
   have a2 : (k : Int) < (s.size : Int) := by omega
   have a1 : (0 : Int) ≤ (k : Int) := by omega
   have a3 : (k : Int) ≤ (s.size : Int) := by omega
   have a4 : ((s.size - k : Nat) : Int) = (N : Int) := by rw [HN.out]
   clear hk2 hB hB48
   rcases HUW.out with ⟨u4, rfl, u5, u6⟩ | ⟨u4, rfl, rfl⟩
   all_goals
    go_wp2_with fail
    refine (C3.out _).mono ?_
    rintro e w1 ⟨A1, n1, c1, rfl, g1, b1⟩
    have G1 := Lh g1
    have B1 := Lh b1
    clear g1 b1
    go_wp2_with fail
    refine (C4.out _).mono ?_
    rintro e w2 ⟨A2, n2, c2, rfl, g2, b2⟩
    have G2 := Lh g2
    have G1a := Lh (G1.out.step b2)
    have B2 := Lh (Aa B1.out b2)
    clear g2 b2
    go_wp2_with fail
    refine Bm (C5.out _ _ _ _ G2.out) fun w3 b3 => ?_
    have G2a := Lh (G2.out.step b3)
    have G1b := Lh (G1a.out.step b3)
    have B3 := Lh (Aa B2.out b3)
    clear b3
    go_wp2_with fail
    refine Bm (C6.out _ _ _ _ G1b.out) fun w4 b4 => ?_
    have G2b := Lh (G2a.out.step b4)
    have G1c := Lh (G1b.out.step b4)
    have B4 := Lh (Aa B3.out b4)
    clear b4
    go_wp2_with fail
    refine (C7.out _ _ _ _ G1c.out).mono ?_
    rintro e w5 ⟨A5, n5, c5, rfl, g5, b5⟩
    have G5 := Lh g5
    have G25 := Lh (G2b.out.step b5)
    have B5 := Lh (Aa B4.out b5)
    clear g5 b5
    go_wp2_with fail
    refine (C8.out _ _ _ _ _ _ _ G5.out G25.out).mono ?_
    rintro e w6 ⟨A6, n6, c6, A7, n7, c7, rfl, g6, g7, b6⟩
    have G6 := Lh g6
    have B6 := Lh (Aa B5.out b6)
    obtain rfl : n7 = 0 := by
     have h1 := g7.len
     rw [HREM.out] at h1
     exact h1.symm
    clear g6 g7 b6
    go_wp2_with fail
    refine (C9.out _ _ _ _ G6.out).mono ?_
    rintro e w7 ⟨A8, n8, c8, rfl, g8, b7⟩
    have G8 := Lh g8
    have B7 := Lh (Aa B6.out b7)
    clear g8 b7
    go_wp2_with fail
    refine Bm (C11.out _ _ _ _ G8.out) fun w9 b9 => ?_
    have B9 := Lh (Aa B7.out b9)
    clear b9
    go_wp2
    go_ret
    exact ⟨rfl, B9.out⟩
theorem L7 (s : ByteArray) (K N : Nat) (X P : Int) (m F : Nat) (D M Q Q2 bd ba : Nat) (x1 up x2 Y U : Int) (w : World) (hs : s.size ≤ 281474976710656) (hK : K ≤ s.size) (hN : s.size - K = N)
  (Z1 : Hid (∀ k (h : k < s.size), k < K → (s[k]'h).toNat = 48)) (Z2 : Hid (∀ h : K < s.size, (s[K]'h).toNat ≠ 48))
  (hN0 : 0 < N) (p1 : wrap64 ((N : Int) + X) = P) (t0 : ((N : Int) == 0) = false) (t1 : decide (400 < P) = false) (t2 : decide (P < -400) = false) (t3 : decide (820 < (N : Int)) = false)
  (C3 : Hid (∀ W, Cp 314 #[.string (s.extract K s.size), .int .i64 10] W (NOk m W)))
  (C4 : Hid (∀ W, Cp 315 #[.int .i64 (-X)] W (NRet D W)))
  (C5 : Hid (∀ W A1 n1 c1, NV W A1 n1 c1 D → Ct 311 #[.slice A1 n1 c1] (.int .i64 (bd : Nat)) W))
  (C6 : Hid (∀ W A1 n1 c1, NV W A1 n1 c1 m → Ct 311 #[.slice A1 n1 c1] (.int .i64 (ba : Nat)) W))
  (C7 : Hid (∀ W A1 n1 c1, NV W A1 n1 c1 m → Cp 317 #[.slice A1 n1 c1, .int .i64 U] W (NRet M W)))
  (C8 : Hid (∀ W A1 n1 c1 A2 n2 c2, NV W A1 n1 c1 M → NV W A2 n2 c2 D → Cp 316 #[.slice A1 n1 c1, .slice A2 n2 c2] W (Ul M D W)))
  (C9 : Hid (∀ W A1 n1 c1, NV W A1 n1 c1 (M / D) → Cp 317 #[.slice A1 n1 c1, .int .i64 1] W (NRet Q W)))
  (C10 : Hid (∀ W A1 n1 c1 A2 n2 c2, NV W A1 n1 c1 Q → NV W A2 n2 c2 1 → Cp 264 #[.slice A1 n1 c1, .slice A2 n2 c2] W (NRet Q2 W)))
  (C11 : Hid (∀ W A1 n1 c1, NV W A1 n1 c1 Q2 → Ct 266 #[.slice A1 n1 c1, .int .i64 Y] (.float .f64 F) W))
  (hrem : M % D ≠ 0)
  (u0 : decide (0 ≤ X) = false) (u1 : wrap64 (-X) = -X) (u2 : wrap64 ((bd : Int) - (ba : Int)) = x1) (u3 : wrap64 (x1 + 70) = up) (hu : (decide (up < 0) = false ∧ U = up ∧ wrap64 (-up) = x2 ∧ wrap64 (x2 - 1) = Y) ∨ (decide (up < 0) = true ∧ U = 0 ∧ Y = -1)) :
  Ct 267 #[.string s, .int .i64 X] (.float .f64 F) w := by
 have h1 : (s.size : Int) ≤ 281474976710656 := by omega
 have HN := Lh hN
 have HK := Lh hK
 have HN0 := Lh hN0
 have HREM := Lh hrem
 have HUW := Lh hu
 clear hu hs hK hN hN0 hrem
 go_enter Tryz.func267, Tryz.ntmps267
 go_wp2
 go_loopw [5] (fun i wr => ∃ k : Nat, i = .int .i64 k ∧ k ≤ K ∧ w = wr) (fun i _ => K - (intOf i).toNat)
 case atStart => exact ⟨0, rfl, Nat.zero_le _, rfl⟩
 case round =>
  obtain ⟨k, rfl, hk, rfl⟩ := hrel
  have hk2 := HK.out
  by_cases hlt : k < K
  ·have hks : k < s.size := by omega
   have e0 : ((s[k]'hks).toNat : Int) = 48 := by rw [Z1.out k hks hlt]; rfl
   have a2 : (k : Int) < (s.size : Int) := by omega
   have a1 : (0 : Int) ≤ (k : Int) := by omega
   clear hk2
   go_wp2
   exact ⟨⟨k + 1, by go_num, by omega, trivial⟩, by simp [intOf]; omega⟩
  ·obtain rfl : k = K := by omega
   have hz : k < s.size := by have := HN.out; have := HN0.out; omega
   obtain ⟨B, hB⟩ : ∃ B : Nat, (s[k]'hz).toNat = B := ⟨_, rfl⟩
   have hB48 := Z2.out hz
   rw [hB] at hB48
   have e0 : ((s[k]'hz).toNat : Int) = (B : Int) := by rw [hB]
   have e1 : ((B : Int) == 48) = false := by rw [beq_eq_false_iff_ne]; omega
   have a2 : (k : Int) < (s.size : Int) := by omega
   have a1 : (0 : Int) ≤ (k : Int) := by omega
   have a3 : (k : Int) ≤ (s.size : Int) := by omega
   have a4 : ((s.size - k : Nat) : Int) = (N : Int) := by rw [HN.out]
   clear hk2 hB hB48
   rcases HUW.out with ⟨u4, rfl, u5, u6⟩ | ⟨u4, rfl, rfl⟩
   all_goals
    go_wp2_with fail
    refine (C3.out _).mono ?_
    rintro e w1 ⟨A1, n1, c1, rfl, g1, b1⟩
    have G1 := Lh g1
    have B1 := Lh b1
    clear g1 b1
    go_wp2_with fail
    refine (C4.out _).mono ?_
    rintro e w2 ⟨A2, n2, c2, rfl, g2, b2⟩
    have G2 := Lh g2
    have G1a := Lh (G1.out.step b2)
    have B2 := Lh (Aa B1.out b2)
    clear g2 b2
    go_wp2_with fail
    refine Bm (C5.out _ _ _ _ G2.out) fun w3 b3 => ?_
    have G2a := Lh (G2.out.step b3)
    have G1b := Lh (G1a.out.step b3)
    have B3 := Lh (Aa B2.out b3)
    clear b3
    go_wp2_with fail
    refine Bm (C6.out _ _ _ _ G1b.out) fun w4 b4 => ?_
    have G2b := Lh (G2a.out.step b4)
    have G1c := Lh (G1b.out.step b4)
    have B4 := Lh (Aa B3.out b4)
    clear b4
    go_wp2_with fail
    refine (C7.out _ _ _ _ G1c.out).mono ?_
    rintro e w5 ⟨A5, n5, c5, rfl, g5, b5⟩
    have G5 := Lh g5
    have G25 := Lh (G2b.out.step b5)
    have B5 := Lh (Aa B4.out b5)
    clear g5 b5
    go_wp2_with fail
    refine (C8.out _ _ _ _ _ _ _ G5.out G25.out).mono ?_
    rintro e w6 ⟨A6, n6, c6, A7, n7, c7, rfl, g6, g7, b6⟩
    have G6 := Lh g6
    have B6 := Lh (Aa B5.out b6)
    have hn7 : (0 : Int) < (n7 : Int) := by
     have h1 := g7.len
     have h2 : (wds (M % D)) ≠ [] := fun e => HREM.out (by have h3 := Ag (M % D); rw [e] at h3; exact h3.symm)
     have := List.length_pos_iff.2 h2
     omega
    clear g6 g7 b6
    go_wp2_with fail
    refine (C9.out _ _ _ _ G6.out).mono ?_
    rintro e w7 ⟨A8, n8, c8, rfl, g8, b7⟩
    have G8 := Lh g8
    have B7 := Lh (Aa B6.out b7)
    clear g8 b7
    have bl := Lh (show Below w7.heap.size w7 (w7.alloc (.cells #[.int .u32 1] 156)) from (Below.refl _ _).alloc (Nat.le_refl _) _)
    have C10' := Lh (C10.out _ _ _ _ _ _ _ (G8.out.step bl.out) (NV.lit w7 1 (by omega) (by omega)))
    go_wp2_with fail
    refine C10'.out.mono ?_
    rintro e w8 ⟨A9, n9, c9, rfl, g9, b8⟩
    have G9 := Lh g9
    have B8 := Lh (Aa (Aa B7.out bl.out) b8)
    clear g9 b8
    go_wp2_with fail
    refine Bm (C11.out _ _ _ _ G9.out) fun w9 b9 => ?_
    have B9 := Lh (Aa B8.out b9)
    clear b9
    go_wp2
    go_ret
    exact ⟨rfl, B9.out⟩


end
section
theorem Mu (s : ByteArray) (K N : Nat) (X P : Int) (m F : Nat) (D M : Nat) (g : ByteArray) (y1 : Int) (E : Int) (w : World) (hs : s.size ≤ 281474976710656) (hK : K ≤ s.size) (hN : s.size - K = N)
  (Z1 : Hid (∀ k (h : k < s.size), k < K → (s[k]'h).toNat = 48)) (Z2 : Hid (∀ h : K < s.size, (s[K]'h).toNat ≠ 48))
  (hN0 : 0 < N) (p1 : wrap64 ((N : Int) + X) = P) (t0 : ((N : Int) == 0) = false) (t1 : decide (400 < P) = false) (t2 : decide (P < -400) = false) (t3 : decide (820 < (N : Int)) = true)
  (hg : s.extract K s.size = g) (hgN : g.size = N) (hN8 : 820 < N) (hrb : ((bl g).drop 810).any (· != 48) = false)
  (q0 : wrap64 (X + (N : Int)) = y1) (q1 : wrap64 (y1 - 810) = E)
  (C3 : Hid (∀ W, Cp 314 #[.string (g.extract 0 810), .int .i64 10] W (NOk m W)))
  (C4 : Hid (∀ W, Cp 315 #[.int .i64 E] W (NRet D W)))
  (C5 : Hid (∀ W A1 n1 c1 A2 n2 c2, NV W A1 n1 c1 m → NV W A2 n2 c2 D → Cp 265 #[.slice A1 n1 c1, .slice A2 n2 c2] W (NRet M W)))
  (C6 : Hid (∀ W A1 n1 c1, NV W A1 n1 c1 M → Ct 266 #[.slice A1 n1 c1, .int .i64 0] (.float .f64 F) W))
  (u0 : decide (0 ≤ E) = true) :
  Ct 267 #[.string s, .int .i64 X] (.float .f64 F) w := by
 have h1 : (s.size : Int) ≤ 281474976710656 := by omega
 have HN := Lh hN
 have HK := Lh hK
 have HN0 := Lh hN0
 have HG := Lh hg
 have HGN := Lh hgN
 have HN8 := Lh hN8
 have HRB := Lh hrb
 clear hs hK hN hN0 hg hgN hN8 hrb
 go_enter Tryz.func267, Tryz.ntmps267
 go_wp2
 go_loopw [5] (fun i wr => ∃ k : Nat, i = .int .i64 k ∧ k ≤ K ∧ w = wr) (fun i _ => K - (intOf i).toNat)
 case atStart => exact ⟨0, rfl, Nat.zero_le _, rfl⟩
 case round =>
  obtain ⟨k, rfl, hk, rfl⟩ := hrel
  have hk2 := HK.out
  by_cases hlt : k < K
  ·have hks : k < s.size := by omega
   have e0 : ((s[k]'hks).toNat : Int) = 48 := by rw [Z1.out k hks hlt]; rfl
   have a2 : (k : Int) < (s.size : Int) := by omega
   have a1 : (0 : Int) ≤ (k : Int) := by omega
   clear hk2
   go_wp2
   exact ⟨⟨k + 1, by go_num, by omega, trivial⟩, by simp [intOf]; omega⟩
  ·obtain rfl : k = K := by omega
   have hz : k < s.size := by have := HN.out; have := HN0.out; omega
   obtain ⟨B, hB⟩ : ∃ B : Nat, (s[k]'hz).toNat = B := ⟨_, rfl⟩
   have hB48 := Z2.out hz
   rw [hB] at hB48
   have e0 : ((s[k]'hz).toNat : Int) = (B : Int) := by rw [hB]
   have e1 : ((B : Int) == 48) = false := by rw [beq_eq_false_iff_ne]; omega
   have a2 : (k : Int) < (s.size : Int) := by omega
   have a1 : (0 : Int) ≤ (k : Int) := by omega
   have a3 : (k : Int) ≤ (s.size : Int) := by omega
   have a4 : ((s.size - k : Nat) : Int) = (N : Int) := by rw [HN.out]
   clear hk2 hB hB48
   have hext : s.extract k s.size = g := HG.out
   have b4 : (g.size : Int) = (N : Int) := by rw [HGN.out]
   go_wp2
   clear a1 a2 a3 e0 e1 hext hz b4
   go_loopw [6, 7] (fun v i wr => ∃ j : Nat, i = .int .i64 (810 + (j : Int)) ∧ 810 + j ≤ N ∧ v = .bool ((((bl g).drop 810).take j).any (· != 48)) ∧ w = wr) (fun _ i _ => N - (intOf i).toNat)
   case atStart => exact ⟨0, rfl, by have := HN8.out; omega, rfl, rfl⟩
   case round =>
    obtain ⟨j, rfl, hj, rfl, rfl⟩ := hrel
    by_cases hjl : 810 + j < N
    ·have hgs : 810 + j < g.size := by rw [HGN.out]; exact hjl
     obtain ⟨D8, hD8⟩ : ∃ D8 : Nat, (g[810 + j]'hgs).toNat = D8 := ⟨_, rfl⟩
     have hstep : (((bl g).drop 810).take (j + 1)).any (· != 48) = ((((bl g).drop 810).take j).any (· != 48) || (D8 != 48)) := by
      rw [List.take_add_one, List.getElem?_drop, Cg g (810 + j) hgs, hD8, List.any_append]
      simp
     have b0 : ((810 + (j : Int)) : Int) < (N : Int) := by omega
     have b1 : (0 : Int) ≤ 810 + (j : Int) := by omega
     have b2 : (810 + (j : Int)).toNat = 810 + j := by omega
     have b3 : ((g[810 + j]'hgs).toNat : Int) = (D8 : Int) := by rw [hD8]
     have b4 : (g.size : Int) = (N : Int) := by rw [HGN.out]
     have b5 : 810 + (j : Int) < (g.size : Int) := by omega
     obtain ⟨r, hr⟩ : ∃ r, (((bl g).drop 810).take j).any (· != 48) = r := ⟨_, rfl⟩
     rw [hr] at hstep ⊢
     have HST := Lh hstep
     clear hstep hr hD8
     cases r
     ·cases h48 : (D8 != 48)
      ·have b6 : ((D8 : Int) != 48) = false := by rw [bne_eq_false_iff_eq]; have := bne_eq_false_iff_eq.1 h48; omega
       have HS2 := Lh (show (((bl g).drop 810).take (j + 1)).any (· != 48) = false from by rw [HST.out, h48]; rfl)
       clear h48
       go_wp2
       exact ⟨⟨j + 1, by go_num, by omega, by rw [HS2.out], trivial⟩, by simp [intOf]; omega⟩
      ·have b6 : ((D8 : Int) != 48) = true := by rw [bne_iff_ne]; have := bne_iff_ne.1 h48; omega
       have HS2 := Lh (show (((bl g).drop 810).take (j + 1)).any (· != 48) = true from by rw [HST.out, h48]; rfl)
       clear h48
       go_wp2
       exact ⟨⟨j + 1, by go_num, by omega, by rw [HS2.out], trivial⟩, by simp [intOf]; omega⟩
     ·have HS2 := Lh (show (((bl g).drop 810).take (j + 1)).any (· != 48) = true from by rw [HST.out]; rfl)
      go_wp2
      exact ⟨⟨j + 1, by go_num, by omega, by rw [HS2.out], trivial⟩, by simp [intOf]; omega⟩
    ·have hz2 : (((bl g).drop 810).take j).any (· != 48) = false := by
      rw [List.take_of_length_le (by rw [List.length_drop, Bj, HGN.out]; omega)]
      exact HRB.out
     rw [hz2]
     have b4 : (g.size : Int) = (N : Int) := by rw [HGN.out]
     have b0 : decide (810 + (j : Int) < (N : Int)) = false := decide_eq_false (by omega)
     have b5 : (810 : Int) ≤ (g.size : Int) := by have := HN8.out; omega
     clear hz2
     go_wp2_with fail
     refine (C3.out _).mono ?_
     rintro e w1 ⟨A1, n1, c1, rfl, g1, b1⟩
     have G1 := Lh g1
     have B1 := Lh b1
     clear g1 b1
     go_wp2_with fail
     refine (C4.out _).mono ?_
     rintro e w2 ⟨A2, n2, c2, rfl, g2, b2⟩
     have G2 := Lh g2
     have G1a := Lh (G1.out.step b2)
     have B2 := Lh (Aa B1.out b2)
     clear g2 b2
     go_wp2_with fail
     refine (C5.out _ _ _ _ _ _ _ G1a.out G2.out).mono ?_
     rintro e w3 ⟨A3, n3, c3, rfl, g3, b3⟩
     have G3 := Lh g3
     have B3 := Lh (Aa B2.out b3)
     clear g3 b3
     go_wp2_with fail
     refine Bm (C6.out _ _ _ _ G3.out) fun w4 b4 => ?_
     have B4 := Lh (Aa B3.out b4)
     clear b4
     go_wp2
     go_ret
     exact ⟨rfl, B4.out⟩
theorem Ma (s : ByteArray) (K N : Nat) (X P : Int) (m F : Nat) (D M Q bd ba : Nat) (x1 up x2 Y U : Int) (g : ByteArray) (y1 : Int) (E : Int) (w : World) (hs : s.size ≤ 281474976710656) (hK : K ≤ s.size) (hN : s.size - K = N)
  (Z1 : Hid (∀ k (h : k < s.size), k < K → (s[k]'h).toNat = 48)) (Z2 : Hid (∀ h : K < s.size, (s[K]'h).toNat ≠ 48))
  (hN0 : 0 < N) (p1 : wrap64 ((N : Int) + X) = P) (t0 : ((N : Int) == 0) = false) (t1 : decide (400 < P) = false) (t2 : decide (P < -400) = false) (t3 : decide (820 < (N : Int)) = true)
  (hg : s.extract K s.size = g) (hgN : g.size = N) (hN8 : 820 < N) (hrb : ((bl g).drop 810).any (· != 48) = false)
  (q0 : wrap64 (X + (N : Int)) = y1) (q1 : wrap64 (y1 - 810) = E)
  (C3 : Hid (∀ W, Cp 314 #[.string (g.extract 0 810), .int .i64 10] W (NOk m W)))
  (C4 : Hid (∀ W, Cp 315 #[.int .i64 (-E)] W (NRet D W)))
  (C5 : Hid (∀ W A1 n1 c1, NV W A1 n1 c1 D → Ct 311 #[.slice A1 n1 c1] (.int .i64 (bd : Nat)) W))
  (C6 : Hid (∀ W A1 n1 c1, NV W A1 n1 c1 m → Ct 311 #[.slice A1 n1 c1] (.int .i64 (ba : Nat)) W))
  (C7 : Hid (∀ W A1 n1 c1, NV W A1 n1 c1 m → Cp 317 #[.slice A1 n1 c1, .int .i64 U] W (NRet M W)))
  (C8 : Hid (∀ W A1 n1 c1 A2 n2 c2, NV W A1 n1 c1 M → NV W A2 n2 c2 D → Cp 316 #[.slice A1 n1 c1, .slice A2 n2 c2] W (Ul M D W)))
  (C9 : Hid (∀ W A1 n1 c1, NV W A1 n1 c1 (M / D) → Cp 317 #[.slice A1 n1 c1, .int .i64 1] W (NRet Q W)))
  (C11 : Hid (∀ W A1 n1 c1, NV W A1 n1 c1 Q → Ct 266 #[.slice A1 n1 c1, .int .i64 Y] (.float .f64 F) W))
  (hrem : M % D = 0)
  (u0 : decide (0 ≤ E) = false) (u1 : wrap64 (-E) = -E) (u2 : wrap64 ((bd : Int) - (ba : Int)) = x1) (u3 : wrap64 (x1 + 70) = up) (hu : (decide (up < 0) = false ∧ U = up ∧ wrap64 (-up) = x2 ∧ wrap64 (x2 - 1) = Y) ∨ (decide (up < 0) = true ∧ U = 0 ∧ Y = -1)) :
  Ct 267 #[.string s, .int .i64 X] (.float .f64 F) w := by
 have h1 : (s.size : Int) ≤ 281474976710656 := by omega
 have HN := Lh hN
 have HK := Lh hK
 have HN0 := Lh hN0
 have HREM := Lh hrem
 have HG := Lh hg
 have HGN := Lh hgN
 have HN8 := Lh hN8
 have HRB := Lh hrb
 have HUW := Lh hu
 clear hu hs hK hN hN0 hrem hg hgN hN8 hrb
 go_enter Tryz.func267, Tryz.ntmps267
 go_wp2
 go_loopw [5] (fun i wr => ∃ k : Nat, i = .int .i64 k ∧ k ≤ K ∧ w = wr) (fun i _ => K - (intOf i).toNat)
 case atStart => exact ⟨0, rfl, Nat.zero_le _, rfl⟩
 case round =>
  obtain ⟨k, rfl, hk, rfl⟩ := hrel
  have hk2 := HK.out
  by_cases hlt : k < K
  ·have hks : k < s.size := by omega
   have e0 : ((s[k]'hks).toNat : Int) = 48 := by rw [Z1.out k hks hlt]; rfl
   have a2 : (k : Int) < (s.size : Int) := by omega
   have a1 : (0 : Int) ≤ (k : Int) := by omega
   clear hk2
   go_wp2
   exact ⟨⟨k + 1, by go_num, by omega, trivial⟩, by simp [intOf]; omega⟩
  ·obtain rfl : k = K := by omega
   have hz : k < s.size := by have := HN.out; have := HN0.out; omega
   obtain ⟨B, hB⟩ : ∃ B : Nat, (s[k]'hz).toNat = B := ⟨_, rfl⟩
   have hB48 := Z2.out hz
   rw [hB] at hB48
   have e0 : ((s[k]'hz).toNat : Int) = (B : Int) := by rw [hB]
   have e1 : ((B : Int) == 48) = false := by rw [beq_eq_false_iff_ne]; omega
   have a2 : (k : Int) < (s.size : Int) := by omega
   have a1 : (0 : Int) ≤ (k : Int) := by omega
   have a3 : (k : Int) ≤ (s.size : Int) := by omega
   have a4 : ((s.size - k : Nat) : Int) = (N : Int) := by rw [HN.out]
   clear hk2 hB hB48
   have hext : s.extract k s.size = g := HG.out
   have b4 : (g.size : Int) = (N : Int) := by rw [HGN.out]
   go_wp2
   clear a1 a2 a3 e0 e1 hext hz b4
   go_loopw [6, 7] (fun v i wr => ∃ j : Nat, i = .int .i64 (810 + (j : Int)) ∧ 810 + j ≤ N ∧ v = .bool ((((bl g).drop 810).take j).any (· != 48)) ∧ w = wr) (fun _ i _ => N - (intOf i).toNat)
   case atStart => exact ⟨0, rfl, by have := HN8.out; omega, rfl, rfl⟩
   case round =>
    obtain ⟨j, rfl, hj, rfl, rfl⟩ := hrel
    by_cases hjl : 810 + j < N
    ·have hgs : 810 + j < g.size := by rw [HGN.out]; exact hjl
     obtain ⟨D8, hD8⟩ : ∃ D8 : Nat, (g[810 + j]'hgs).toNat = D8 := ⟨_, rfl⟩
     have hstep : (((bl g).drop 810).take (j + 1)).any (· != 48) = ((((bl g).drop 810).take j).any (· != 48) || (D8 != 48)) := by
      rw [List.take_add_one, List.getElem?_drop, Cg g (810 + j) hgs, hD8, List.any_append]
      simp
     have b0 : ((810 + (j : Int)) : Int) < (N : Int) := by omega
     have b1 : (0 : Int) ≤ 810 + (j : Int) := by omega
     have b2 : (810 + (j : Int)).toNat = 810 + j := by omega
     have b3 : ((g[810 + j]'hgs).toNat : Int) = (D8 : Int) := by rw [hD8]
     have b4 : (g.size : Int) = (N : Int) := by rw [HGN.out]
     have b5 : 810 + (j : Int) < (g.size : Int) := by omega
     obtain ⟨r, hr⟩ : ∃ r, (((bl g).drop 810).take j).any (· != 48) = r := ⟨_, rfl⟩
     rw [hr] at hstep ⊢
     have HST := Lh hstep
     clear hstep hr hD8
     cases r
     ·cases h48 : (D8 != 48)
      ·have b6 : ((D8 : Int) != 48) = false := by rw [bne_eq_false_iff_eq]; have := bne_eq_false_iff_eq.1 h48; omega
       have HS2 := Lh (show (((bl g).drop 810).take (j + 1)).any (· != 48) = false from by rw [HST.out, h48]; rfl)
       clear h48
       go_wp2
       exact ⟨⟨j + 1, by go_num, by omega, by rw [HS2.out], trivial⟩, by simp [intOf]; omega⟩
      ·have b6 : ((D8 : Int) != 48) = true := by rw [bne_iff_ne]; have := bne_iff_ne.1 h48; omega
       have HS2 := Lh (show (((bl g).drop 810).take (j + 1)).any (· != 48) = true from by rw [HST.out, h48]; rfl)
       clear h48
       go_wp2
       exact ⟨⟨j + 1, by go_num, by omega, by rw [HS2.out], trivial⟩, by simp [intOf]; omega⟩
     ·have HS2 := Lh (show (((bl g).drop 810).take (j + 1)).any (· != 48) = true from by rw [HST.out]; rfl)
      go_wp2
      exact ⟨⟨j + 1, by go_num, by omega, by rw [HS2.out], trivial⟩, by simp [intOf]; omega⟩
    ·have hz2 : (((bl g).drop 810).take j).any (· != 48) = false := by
      rw [List.take_of_length_le (by rw [List.length_drop, Bj, HGN.out]; omega)]
      exact HRB.out
     rw [hz2]
     have b4 : (g.size : Int) = (N : Int) := by rw [HGN.out]
     have b0 : decide (810 + (j : Int) < (N : Int)) = false := decide_eq_false (by omega)
     have b5 : (810 : Int) ≤ (g.size : Int) := by have := HN8.out; omega
     clear hz2
     rcases HUW.out with ⟨u4, rfl, u5, u6⟩ | ⟨u4, rfl, rfl⟩
     all_goals
      go_wp2_with fail
      refine (C3.out _).mono ?_
      rintro e w1 ⟨A1, n1, c1, rfl, g1, b1⟩
      have G1 := Lh g1
      have B1 := Lh b1
      clear g1 b1
      go_wp2_with fail
      refine (C4.out _).mono ?_
      rintro e w2 ⟨A2, n2, c2, rfl, g2, b2⟩
      have G2 := Lh g2
      have G1a := Lh (G1.out.step b2)
      have B2 := Lh (Aa B1.out b2)
      clear g2 b2
      go_wp2_with fail
      refine Bm (C5.out _ _ _ _ G2.out) fun w3 b3 => ?_
      have G2a := Lh (G2.out.step b3)
      have G1b := Lh (G1a.out.step b3)
      have B3 := Lh (Aa B2.out b3)
      clear b3
      go_wp2_with fail
      refine Bm (C6.out _ _ _ _ G1b.out) fun w4 b4 => ?_
      have G2b := Lh (G2a.out.step b4)
      have G1c := Lh (G1b.out.step b4)
      have B4 := Lh (Aa B3.out b4)
      clear b4
      go_wp2_with fail
      refine (C7.out _ _ _ _ G1c.out).mono ?_
      rintro e w5 ⟨A5, n5, c5, rfl, g5, b5⟩
      have G5 := Lh g5
      have G25 := Lh (G2b.out.step b5)
      have B5 := Lh (Aa B4.out b5)
      clear g5 b5
      go_wp2_with fail
      refine (C8.out _ _ _ _ _ _ _ G5.out G25.out).mono ?_
      rintro e w6 ⟨A6, n6, c6, A7, n7, c7, rfl, g6, g7, b6⟩
      have G6 := Lh g6
      have B6 := Lh (Aa B5.out b6)
      obtain rfl : n7 = 0 := by
       have h1 := g7.len
       rw [HREM.out] at h1
       exact h1.symm
      clear g6 g7 b6
      go_wp2_with fail
      refine (C9.out _ _ _ _ G6.out).mono ?_
      rintro e w7 ⟨A8, n8, c8, rfl, g8, b7⟩
      have G8 := Lh g8
      have B7 := Lh (Aa B6.out b7)
      clear g8 b7
      go_wp2_with fail
      refine Bm (C11.out _ _ _ _ G8.out) fun w9 b9 => ?_
      have B9 := Lh (Aa B7.out b9)
      clear b9
      go_wp2
      go_ret
      exact ⟨rfl, B9.out⟩
theorem L8 (s : ByteArray) (K N : Nat) (X P : Int) (m F : Nat) (D M Q Q2 bd ba : Nat) (x1 up x2 Y U : Int) (g : ByteArray) (y1 : Int) (E : Int) (w : World) (hs : s.size ≤ 281474976710656) (hK : K ≤ s.size) (hN : s.size - K = N)
  (Z1 : Hid (∀ k (h : k < s.size), k < K → (s[k]'h).toNat = 48)) (Z2 : Hid (∀ h : K < s.size, (s[K]'h).toNat ≠ 48))
  (hN0 : 0 < N) (p1 : wrap64 ((N : Int) + X) = P) (t0 : ((N : Int) == 0) = false) (t1 : decide (400 < P) = false) (t2 : decide (P < -400) = false) (t3 : decide (820 < (N : Int)) = true)
  (hg : s.extract K s.size = g) (hgN : g.size = N) (hN8 : 820 < N) (hrb : ((bl g).drop 810).any (· != 48) = false)
  (q0 : wrap64 (X + (N : Int)) = y1) (q1 : wrap64 (y1 - 810) = E)
  (C3 : Hid (∀ W, Cp 314 #[.string (g.extract 0 810), .int .i64 10] W (NOk m W)))
  (C4 : Hid (∀ W, Cp 315 #[.int .i64 (-E)] W (NRet D W)))
  (C5 : Hid (∀ W A1 n1 c1, NV W A1 n1 c1 D → Ct 311 #[.slice A1 n1 c1] (.int .i64 (bd : Nat)) W))
  (C6 : Hid (∀ W A1 n1 c1, NV W A1 n1 c1 m → Ct 311 #[.slice A1 n1 c1] (.int .i64 (ba : Nat)) W))
  (C7 : Hid (∀ W A1 n1 c1, NV W A1 n1 c1 m → Cp 317 #[.slice A1 n1 c1, .int .i64 U] W (NRet M W)))
  (C8 : Hid (∀ W A1 n1 c1 A2 n2 c2, NV W A1 n1 c1 M → NV W A2 n2 c2 D → Cp 316 #[.slice A1 n1 c1, .slice A2 n2 c2] W (Ul M D W)))
  (C9 : Hid (∀ W A1 n1 c1, NV W A1 n1 c1 (M / D) → Cp 317 #[.slice A1 n1 c1, .int .i64 1] W (NRet Q W)))
  (C10 : Hid (∀ W A1 n1 c1 A2 n2 c2, NV W A1 n1 c1 Q → NV W A2 n2 c2 1 → Cp 264 #[.slice A1 n1 c1, .slice A2 n2 c2] W (NRet Q2 W)))
  (C11 : Hid (∀ W A1 n1 c1, NV W A1 n1 c1 Q2 → Ct 266 #[.slice A1 n1 c1, .int .i64 Y] (.float .f64 F) W))
  (hrem : M % D ≠ 0)
  (u0 : decide (0 ≤ E) = false) (u1 : wrap64 (-E) = -E) (u2 : wrap64 ((bd : Int) - (ba : Int)) = x1) (u3 : wrap64 (x1 + 70) = up) (hu : (decide (up < 0) = false ∧ U = up ∧ wrap64 (-up) = x2 ∧ wrap64 (x2 - 1) = Y) ∨ (decide (up < 0) = true ∧ U = 0 ∧ Y = -1)) :
  Ct 267 #[.string s, .int .i64 X] (.float .f64 F) w := by
 have h1 : (s.size : Int) ≤ 281474976710656 := by omega
 have HN := Lh hN
 have HK := Lh hK
 have HN0 := Lh hN0
 have HREM := Lh hrem
 have HG := Lh hg
 have HGN := Lh hgN
 have HN8 := Lh hN8
 have HRB := Lh hrb
 have HUW := Lh hu
 clear hu hs hK hN hN0 hrem hg hgN hN8 hrb
 go_enter Tryz.func267, Tryz.ntmps267
 go_wp2
 go_loopw [5] (fun i wr => ∃ k : Nat, i = .int .i64 k ∧ k ≤ K ∧ w = wr) (fun i _ => K - (intOf i).toNat)
 case atStart => exact ⟨0, rfl, Nat.zero_le _, rfl⟩
 case round =>
  obtain ⟨k, rfl, hk, rfl⟩ := hrel
  have hk2 := HK.out
  by_cases hlt : k < K
  ·have hks : k < s.size := by omega
   have e0 : ((s[k]'hks).toNat : Int) = 48 := by rw [Z1.out k hks hlt]; rfl
   have a2 : (k : Int) < (s.size : Int) := by omega
   have a1 : (0 : Int) ≤ (k : Int) := by omega
   clear hk2
   go_wp2
   exact ⟨⟨k + 1, by go_num, by omega, trivial⟩, by simp [intOf]; omega⟩
  ·obtain rfl : k = K := by omega
   have hz : k < s.size := by have := HN.out; have := HN0.out; omega
   obtain ⟨B, hB⟩ : ∃ B : Nat, (s[k]'hz).toNat = B := ⟨_, rfl⟩
   have hB48 := Z2.out hz
   rw [hB] at hB48
   have e0 : ((s[k]'hz).toNat : Int) = (B : Int) := by rw [hB]
   have e1 : ((B : Int) == 48) = false := by rw [beq_eq_false_iff_ne]; omega
   have a2 : (k : Int) < (s.size : Int) := by omega
   have a1 : (0 : Int) ≤ (k : Int) := by omega
   have a3 : (k : Int) ≤ (s.size : Int) := by omega
   have a4 : ((s.size - k : Nat) : Int) = (N : Int) := by rw [HN.out]
   clear hk2 hB hB48
   have hext : s.extract k s.size = g := HG.out
   have b4 : (g.size : Int) = (N : Int) := by rw [HGN.out]
   go_wp2
   clear a1 a2 a3 e0 e1 hext hz b4
   go_loopw [6, 7] (fun v i wr => ∃ j : Nat, i = .int .i64 (810 + (j : Int)) ∧ 810 + j ≤ N ∧ v = .bool ((((bl g).drop 810).take j).any (· != 48)) ∧ w = wr) (fun _ i _ => N - (intOf i).toNat)
   case atStart => exact ⟨0, rfl, by have := HN8.out; omega, rfl, rfl⟩
   case round =>
    obtain ⟨j, rfl, hj, rfl, rfl⟩ := hrel
    by_cases hjl : 810 + j < N
    ·have hgs : 810 + j < g.size := by rw [HGN.out]; exact hjl
     obtain ⟨D8, hD8⟩ : ∃ D8 : Nat, (g[810 + j]'hgs).toNat = D8 := ⟨_, rfl⟩
     have hstep : (((bl g).drop 810).take (j + 1)).any (· != 48) = ((((bl g).drop 810).take j).any (· != 48) || (D8 != 48)) := by
      rw [List.take_add_one, List.getElem?_drop, Cg g (810 + j) hgs, hD8, List.any_append]
      simp
     have b0 : ((810 + (j : Int)) : Int) < (N : Int) := by omega
     have b1 : (0 : Int) ≤ 810 + (j : Int) := by omega
     have b2 : (810 + (j : Int)).toNat = 810 + j := by omega
     have b3 : ((g[810 + j]'hgs).toNat : Int) = (D8 : Int) := by rw [hD8]
     have b4 : (g.size : Int) = (N : Int) := by rw [HGN.out]
     have b5 : 810 + (j : Int) < (g.size : Int) := by omega
     obtain ⟨r, hr⟩ : ∃ r, (((bl g).drop 810).take j).any (· != 48) = r := ⟨_, rfl⟩
     rw [hr] at hstep ⊢
     have HST := Lh hstep
     clear hstep hr hD8
     cases r
     ·cases h48 : (D8 != 48)
      ·have b6 : ((D8 : Int) != 48) = false := by rw [bne_eq_false_iff_eq]; have := bne_eq_false_iff_eq.1 h48; omega
       have HS2 := Lh (show (((bl g).drop 810).take (j + 1)).any (· != 48) = false from by rw [HST.out, h48]; rfl)
       clear h48
       go_wp2
       exact ⟨⟨j + 1, by go_num, by omega, by rw [HS2.out], trivial⟩, by simp [intOf]; omega⟩
      ·have b6 : ((D8 : Int) != 48) = true := by rw [bne_iff_ne]; have := bne_iff_ne.1 h48; omega
       have HS2 := Lh (show (((bl g).drop 810).take (j + 1)).any (· != 48) = true from by rw [HST.out, h48]; rfl)
       clear h48
       go_wp2
       exact ⟨⟨j + 1, by go_num, by omega, by rw [HS2.out], trivial⟩, by simp [intOf]; omega⟩
     ·have HS2 := Lh (show (((bl g).drop 810).take (j + 1)).any (· != 48) = true from by rw [HST.out]; rfl)
      go_wp2
      exact ⟨⟨j + 1, by go_num, by omega, by rw [HS2.out], trivial⟩, by simp [intOf]; omega⟩
    ·have hz2 : (((bl g).drop 810).take j).any (· != 48) = false := by
      rw [List.take_of_length_le (by rw [List.length_drop, Bj, HGN.out]; omega)]
      exact HRB.out
     rw [hz2]
     have b4 : (g.size : Int) = (N : Int) := by rw [HGN.out]
     have b0 : decide (810 + (j : Int) < (N : Int)) = false := decide_eq_false (by omega)
     have b5 : (810 : Int) ≤ (g.size : Int) := by have := HN8.out; omega
     clear hz2
     rcases HUW.out with ⟨u4, rfl, u5, u6⟩ | ⟨u4, rfl, rfl⟩
     all_goals
      go_wp2_with fail
      refine (C3.out _).mono ?_
      rintro e w1 ⟨A1, n1, c1, rfl, g1, b1⟩
      have G1 := Lh g1
      have B1 := Lh b1
      clear g1 b1
      go_wp2_with fail
      refine (C4.out _).mono ?_
      rintro e w2 ⟨A2, n2, c2, rfl, g2, b2⟩
      have G2 := Lh g2
      have G1a := Lh (G1.out.step b2)
      have B2 := Lh (Aa B1.out b2)
      clear g2 b2
      go_wp2_with fail
      refine Bm (C5.out _ _ _ _ G2.out) fun w3 b3 => ?_
      have G2a := Lh (G2.out.step b3)
      have G1b := Lh (G1a.out.step b3)
      have B3 := Lh (Aa B2.out b3)
      clear b3
      go_wp2_with fail
      refine Bm (C6.out _ _ _ _ G1b.out) fun w4 b4 => ?_
      have G2b := Lh (G2a.out.step b4)
      have G1c := Lh (G1b.out.step b4)
      have B4 := Lh (Aa B3.out b4)
      clear b4
      go_wp2_with fail
      refine (C7.out _ _ _ _ G1c.out).mono ?_
      rintro e w5 ⟨A5, n5, c5, rfl, g5, b5⟩
      have G5 := Lh g5
      have G25 := Lh (G2b.out.step b5)
      have B5 := Lh (Aa B4.out b5)
      clear g5 b5
      go_wp2_with fail
      refine (C8.out _ _ _ _ _ _ _ G5.out G25.out).mono ?_
      rintro e w6 ⟨A6, n6, c6, A7, n7, c7, rfl, g6, g7, b6⟩
      have G6 := Lh g6
      have B6 := Lh (Aa B5.out b6)
      have hn7 : (0 : Int) < (n7 : Int) := by
       have h1 := g7.len
       have h2 : (wds (M % D)) ≠ [] := fun e => HREM.out (by have h3 := Ag (M % D); rw [e] at h3; exact h3.symm)
       have := List.length_pos_iff.2 h2
       omega
      clear g6 g7 b6
      go_wp2_with fail
      refine (C9.out _ _ _ _ G6.out).mono ?_
      rintro e w7 ⟨A8, n8, c8, rfl, g8, b7⟩
      have G8 := Lh g8
      have B7 := Lh (Aa B6.out b7)
      clear g8 b7
      have bl := Lh (show Below w7.heap.size w7 (w7.alloc (.cells #[.int .u32 1] 156)) from (Below.refl _ _).alloc (Nat.le_refl _) _)
      have C10' := Lh (C10.out _ _ _ _ _ _ _ (G8.out.step bl.out) (NV.lit w7 1 (by omega) (by omega)))
      go_wp2_with fail
      refine C10'.out.mono ?_
      rintro e w8 ⟨A9, n9, c9, rfl, g9, b8⟩
      have G9 := Lh g9
      have B8 := Lh (Aa (Aa B7.out bl.out) b8)
      clear g9 b8
      go_wp2_with fail
      refine Bm (C11.out _ _ _ _ G9.out) fun w9 b9 => ?_
      have B9 := Lh (Aa B8.out b9)
      clear b9
      go_wp2
      go_ret
      exact ⟨rfl, B9.out⟩


end
section
theorem My (s : ByteArray) (K N : Nat) (X P : Int) (m F : Nat) (D M : Nat) (g : ByteArray) (y1 y2 : Int) (E : Int) (w : World) (hs : s.size ≤ 281474976710656) (hK : K ≤ s.size) (hN : s.size - K = N)
  (Z1 : Hid (∀ k (h : k < s.size), k < K → (s[k]'h).toNat = 48)) (Z2 : Hid (∀ h : K < s.size, (s[K]'h).toNat ≠ 48))
  (hN0 : 0 < N) (p1 : wrap64 ((N : Int) + X) = P) (t0 : ((N : Int) == 0) = false) (t1 : decide (400 < P) = false) (t2 : decide (P < -400) = false) (t3 : decide (820 < (N : Int)) = true)
  (hg : s.extract K s.size = g) (hgN : g.size = N) (hN8 : 820 < N) (hrb : ((bl g).drop 810).any (· != 48) = true)
  (q0 : wrap64 (X + (N : Int)) = y1) (q1 : wrap64 (y1 - 810) = y2) (q2 : wrap64 (y2 - 1) = E) (_q3 : ¬ 9223372036854775807 < (g.extract 0 810).size + 1) 
  (C3 : Hid (∀ W, Cp 314 #[.string (g.extract 0 810 ++ ⟨#[49]⟩), .int .i64 10] W (NOk m W)))
  (C4 : Hid (∀ W, Cp 315 #[.int .i64 E] W (NRet D W)))
  (C5 : Hid (∀ W A1 n1 c1 A2 n2 c2, NV W A1 n1 c1 m → NV W A2 n2 c2 D → Cp 265 #[.slice A1 n1 c1, .slice A2 n2 c2] W (NRet M W)))
  (C6 : Hid (∀ W A1 n1 c1, NV W A1 n1 c1 M → Ct 266 #[.slice A1 n1 c1, .int .i64 0] (.float .f64 F) W))
  (u0 : decide (0 ≤ E) = true) :
  Ct 267 #[.string s, .int .i64 X] (.float .f64 F) w := by
 have h1 : (s.size : Int) ≤ 281474976710656 := by omega
 have HN := Lh hN
 have HK := Lh hK
 have HN0 := Lh hN0
 have HG := Lh hg
 have HGN := Lh hgN
 have HN8 := Lh hN8
 have HRB := Lh hrb
 clear hs hK hN hN0 hg hgN hN8 hrb
 go_enter Tryz.func267, Tryz.ntmps267
 go_wp2
 go_loopw [5] (fun i wr => ∃ k : Nat, i = .int .i64 k ∧ k ≤ K ∧ w = wr) (fun i _ => K - (intOf i).toNat)
 case atStart => exact ⟨0, rfl, Nat.zero_le _, rfl⟩
 case round =>
  obtain ⟨k, rfl, hk, rfl⟩ := hrel
  have hk2 := HK.out
  by_cases hlt : k < K
  ·have hks : k < s.size := by omega
   have e0 : ((s[k]'hks).toNat : Int) = 48 := by rw [Z1.out k hks hlt]; rfl
   have a2 : (k : Int) < (s.size : Int) := by omega
   have a1 : (0 : Int) ≤ (k : Int) := by omega
   clear hk2
   go_wp2
   exact ⟨⟨k + 1, by go_num, by omega, trivial⟩, by simp [intOf]; omega⟩
  ·obtain rfl : k = K := by omega
   have hz : k < s.size := by have := HN.out; have := HN0.out; omega
   obtain ⟨B, hB⟩ : ∃ B : Nat, (s[k]'hz).toNat = B := ⟨_, rfl⟩
   have hB48 := Z2.out hz
   rw [hB] at hB48
   have e0 : ((s[k]'hz).toNat : Int) = (B : Int) := by rw [hB]
   have e1 : ((B : Int) == 48) = false := by rw [beq_eq_false_iff_ne]; omega
   have a2 : (k : Int) < (s.size : Int) := by omega
   have a1 : (0 : Int) ≤ (k : Int) := by omega
   have a3 : (k : Int) ≤ (s.size : Int) := by omega
   have a4 : ((s.size - k : Nat) : Int) = (N : Int) := by rw [HN.out]
   clear hk2 hB hB48
   have hext : s.extract k s.size = g := HG.out
   have b4 : (g.size : Int) = (N : Int) := by rw [HGN.out]
   go_wp2
   clear a1 a2 a3 e0 e1 hext hz b4
   go_loopw [6, 7] (fun v i wr => ∃ j : Nat, i = .int .i64 (810 + (j : Int)) ∧ 810 + j ≤ N ∧ v = .bool ((((bl g).drop 810).take j).any (· != 48)) ∧ w = wr) (fun _ i _ => N - (intOf i).toNat)
   case atStart => exact ⟨0, rfl, by have := HN8.out; omega, rfl, rfl⟩
   case round =>
    obtain ⟨j, rfl, hj, rfl, rfl⟩ := hrel
    by_cases hjl : 810 + j < N
    ·have hgs : 810 + j < g.size := by rw [HGN.out]; exact hjl
     obtain ⟨D8, hD8⟩ : ∃ D8 : Nat, (g[810 + j]'hgs).toNat = D8 := ⟨_, rfl⟩
     have hstep : (((bl g).drop 810).take (j + 1)).any (· != 48) = ((((bl g).drop 810).take j).any (· != 48) || (D8 != 48)) := by
      rw [List.take_add_one, List.getElem?_drop, Cg g (810 + j) hgs, hD8, List.any_append]
      simp
     have b0 : ((810 + (j : Int)) : Int) < (N : Int) := by omega
     have b1 : (0 : Int) ≤ 810 + (j : Int) := by omega
     have b2 : (810 + (j : Int)).toNat = 810 + j := by omega
     have b3 : ((g[810 + j]'hgs).toNat : Int) = (D8 : Int) := by rw [hD8]
     have b4 : (g.size : Int) = (N : Int) := by rw [HGN.out]
     have b5 : 810 + (j : Int) < (g.size : Int) := by omega
     obtain ⟨r, hr⟩ : ∃ r, (((bl g).drop 810).take j).any (· != 48) = r := ⟨_, rfl⟩
     rw [hr] at hstep ⊢
     have HST := Lh hstep
     clear hstep hr hD8
     cases r
     ·cases h48 : (D8 != 48)
      ·have b6 : ((D8 : Int) != 48) = false := by rw [bne_eq_false_iff_eq]; have := bne_eq_false_iff_eq.1 h48; omega
       have HS2 := Lh (show (((bl g).drop 810).take (j + 1)).any (· != 48) = false from by rw [HST.out, h48]; rfl)
       clear h48
       go_wp2
       exact ⟨⟨j + 1, by go_num, by omega, by rw [HS2.out], trivial⟩, by simp [intOf]; omega⟩
      ·have b6 : ((D8 : Int) != 48) = true := by rw [bne_iff_ne]; have := bne_iff_ne.1 h48; omega
       have HS2 := Lh (show (((bl g).drop 810).take (j + 1)).any (· != 48) = true from by rw [HST.out, h48]; rfl)
       clear h48
       go_wp2
       exact ⟨⟨j + 1, by go_num, by omega, by rw [HS2.out], trivial⟩, by simp [intOf]; omega⟩
     ·have HS2 := Lh (show (((bl g).drop 810).take (j + 1)).any (· != 48) = true from by rw [HST.out]; rfl)
      go_wp2
      exact ⟨⟨j + 1, by go_num, by omega, by rw [HS2.out], trivial⟩, by simp [intOf]; omega⟩
    ·have hz2 : (((bl g).drop 810).take j).any (· != 48) = true := by
      rw [List.take_of_length_le (by rw [List.length_drop, Bj, HGN.out]; omega)]
      exact HRB.out
     rw [hz2]
     have b4 : (g.size : Int) = (N : Int) := by rw [HGN.out]
     have b0 : decide (810 + (j : Int) < (N : Int)) = false := decide_eq_false (by omega)
     have b5 : (810 : Int) ≤ (g.size : Int) := by have := HN8.out; omega
     clear hz2
     go_wp2_with fail
     refine (C3.out _).mono ?_
     rintro e w1 ⟨A1, n1, c1, rfl, g1, b1⟩
     have G1 := Lh g1
     have B1 := Lh b1
     clear g1 b1
     go_wp2_with fail
     refine (C4.out _).mono ?_
     rintro e w2 ⟨A2, n2, c2, rfl, g2, b2⟩
     have G2 := Lh g2
     have G1a := Lh (G1.out.step b2)
     have B2 := Lh (Aa B1.out b2)
     clear g2 b2
     go_wp2_with fail
     refine (C5.out _ _ _ _ _ _ _ G1a.out G2.out).mono ?_
     rintro e w3 ⟨A3, n3, c3, rfl, g3, b3⟩
     have G3 := Lh g3
     have B3 := Lh (Aa B2.out b3)
     clear g3 b3
     go_wp2_with fail
     refine Bm (C6.out _ _ _ _ G3.out) fun w4 b4 => ?_
     have B4 := Lh (Aa B3.out b4)
     clear b4
     go_wp2
     go_ret
     exact ⟨rfl, B4.out⟩
theorem Mb (s : ByteArray) (K N : Nat) (X P : Int) (m F : Nat) (D M Q bd ba : Nat) (x1 up x2 Y U : Int) (g : ByteArray) (y1 y2 : Int) (E : Int) (w : World) (hs : s.size ≤ 281474976710656) (hK : K ≤ s.size) (hN : s.size - K = N)
  (Z1 : Hid (∀ k (h : k < s.size), k < K → (s[k]'h).toNat = 48)) (Z2 : Hid (∀ h : K < s.size, (s[K]'h).toNat ≠ 48))
  (hN0 : 0 < N) (p1 : wrap64 ((N : Int) + X) = P) (t0 : ((N : Int) == 0) = false) (t1 : decide (400 < P) = false) (t2 : decide (P < -400) = false) (t3 : decide (820 < (N : Int)) = true)
  (hg : s.extract K s.size = g) (hgN : g.size = N) (hN8 : 820 < N) (hrb : ((bl g).drop 810).any (· != 48) = true)
  (q0 : wrap64 (X + (N : Int)) = y1) (q1 : wrap64 (y1 - 810) = y2) (q2 : wrap64 (y2 - 1) = E) (_q3 : ¬ 9223372036854775807 < (g.extract 0 810).size + 1) 
  (C3 : Hid (∀ W, Cp 314 #[.string (g.extract 0 810 ++ ⟨#[49]⟩), .int .i64 10] W (NOk m W)))
  (C4 : Hid (∀ W, Cp 315 #[.int .i64 (-E)] W (NRet D W)))
  (C5 : Hid (∀ W A1 n1 c1, NV W A1 n1 c1 D → Ct 311 #[.slice A1 n1 c1] (.int .i64 (bd : Nat)) W))
  (C6 : Hid (∀ W A1 n1 c1, NV W A1 n1 c1 m → Ct 311 #[.slice A1 n1 c1] (.int .i64 (ba : Nat)) W))
  (C7 : Hid (∀ W A1 n1 c1, NV W A1 n1 c1 m → Cp 317 #[.slice A1 n1 c1, .int .i64 U] W (NRet M W)))
  (C8 : Hid (∀ W A1 n1 c1 A2 n2 c2, NV W A1 n1 c1 M → NV W A2 n2 c2 D → Cp 316 #[.slice A1 n1 c1, .slice A2 n2 c2] W (Ul M D W)))
  (C9 : Hid (∀ W A1 n1 c1, NV W A1 n1 c1 (M / D) → Cp 317 #[.slice A1 n1 c1, .int .i64 1] W (NRet Q W)))
  (C11 : Hid (∀ W A1 n1 c1, NV W A1 n1 c1 Q → Ct 266 #[.slice A1 n1 c1, .int .i64 Y] (.float .f64 F) W))
  (hrem : M % D = 0)
  (u0 : decide (0 ≤ E) = false) (u1 : wrap64 (-E) = -E) (u2 : wrap64 ((bd : Int) - (ba : Int)) = x1) (u3 : wrap64 (x1 + 70) = up) (hu : (decide (up < 0) = false ∧ U = up ∧ wrap64 (-up) = x2 ∧ wrap64 (x2 - 1) = Y) ∨ (decide (up < 0) = true ∧ U = 0 ∧ Y = -1)) :
  Ct 267 #[.string s, .int .i64 X] (.float .f64 F) w := by
 have h1 : (s.size : Int) ≤ 281474976710656 := by omega
 have HN := Lh hN
 have HK := Lh hK
 have HN0 := Lh hN0
 have HREM := Lh hrem
 have HG := Lh hg
 have HGN := Lh hgN
 have HN8 := Lh hN8
 have HRB := Lh hrb
 have HUW := Lh hu
 clear hu hs hK hN hN0 hrem hg hgN hN8 hrb
 go_enter Tryz.func267, Tryz.ntmps267
 go_wp2
 go_loopw [5] (fun i wr => ∃ k : Nat, i = .int .i64 k ∧ k ≤ K ∧ w = wr) (fun i _ => K - (intOf i).toNat)
 case atStart => exact ⟨0, rfl, Nat.zero_le _, rfl⟩
 case round =>
  obtain ⟨k, rfl, hk, rfl⟩ := hrel
  have hk2 := HK.out
  by_cases hlt : k < K
  ·have hks : k < s.size := by omega
   have e0 : ((s[k]'hks).toNat : Int) = 48 := by rw [Z1.out k hks hlt]; rfl
   have a2 : (k : Int) < (s.size : Int) := by omega
   have a1 : (0 : Int) ≤ (k : Int) := by omega
   clear hk2
   go_wp2
   exact ⟨⟨k + 1, by go_num, by omega, trivial⟩, by simp [intOf]; omega⟩
  ·obtain rfl : k = K := by omega
   have hz : k < s.size := by have := HN.out; have := HN0.out; omega
   obtain ⟨B, hB⟩ : ∃ B : Nat, (s[k]'hz).toNat = B := ⟨_, rfl⟩
   have hB48 := Z2.out hz
   rw [hB] at hB48
   have e0 : ((s[k]'hz).toNat : Int) = (B : Int) := by rw [hB]
   have e1 : ((B : Int) == 48) = false := by rw [beq_eq_false_iff_ne]; omega
   have a2 : (k : Int) < (s.size : Int) := by omega
   have a1 : (0 : Int) ≤ (k : Int) := by omega
   have a3 : (k : Int) ≤ (s.size : Int) := by omega
   have a4 : ((s.size - k : Nat) : Int) = (N : Int) := by rw [HN.out]
   clear hk2 hB hB48
   have hext : s.extract k s.size = g := HG.out
   have b4 : (g.size : Int) = (N : Int) := by rw [HGN.out]
   go_wp2
   clear a1 a2 a3 e0 e1 hext hz b4
   go_loopw [6, 7] (fun v i wr => ∃ j : Nat, i = .int .i64 (810 + (j : Int)) ∧ 810 + j ≤ N ∧ v = .bool ((((bl g).drop 810).take j).any (· != 48)) ∧ w = wr) (fun _ i _ => N - (intOf i).toNat)
   case atStart => exact ⟨0, rfl, by have := HN8.out; omega, rfl, rfl⟩
   case round =>
    obtain ⟨j, rfl, hj, rfl, rfl⟩ := hrel
    by_cases hjl : 810 + j < N
    ·have hgs : 810 + j < g.size := by rw [HGN.out]; exact hjl
     obtain ⟨D8, hD8⟩ : ∃ D8 : Nat, (g[810 + j]'hgs).toNat = D8 := ⟨_, rfl⟩
     have hstep : (((bl g).drop 810).take (j + 1)).any (· != 48) = ((((bl g).drop 810).take j).any (· != 48) || (D8 != 48)) := by
      rw [List.take_add_one, List.getElem?_drop, Cg g (810 + j) hgs, hD8, List.any_append]
      simp
     have b0 : ((810 + (j : Int)) : Int) < (N : Int) := by omega
     have b1 : (0 : Int) ≤ 810 + (j : Int) := by omega
     have b2 : (810 + (j : Int)).toNat = 810 + j := by omega
     have b3 : ((g[810 + j]'hgs).toNat : Int) = (D8 : Int) := by rw [hD8]
     have b4 : (g.size : Int) = (N : Int) := by rw [HGN.out]
     have b5 : 810 + (j : Int) < (g.size : Int) := by omega
     obtain ⟨r, hr⟩ : ∃ r, (((bl g).drop 810).take j).any (· != 48) = r := ⟨_, rfl⟩
     rw [hr] at hstep ⊢
     have HST := Lh hstep
     clear hstep hr hD8
     cases r
     ·cases h48 : (D8 != 48)
      ·have b6 : ((D8 : Int) != 48) = false := by rw [bne_eq_false_iff_eq]; have := bne_eq_false_iff_eq.1 h48; omega
       have HS2 := Lh (show (((bl g).drop 810).take (j + 1)).any (· != 48) = false from by rw [HST.out, h48]; rfl)
       clear h48
       go_wp2
       exact ⟨⟨j + 1, by go_num, by omega, by rw [HS2.out], trivial⟩, by simp [intOf]; omega⟩
      ·have b6 : ((D8 : Int) != 48) = true := by rw [bne_iff_ne]; have := bne_iff_ne.1 h48; omega
       have HS2 := Lh (show (((bl g).drop 810).take (j + 1)).any (· != 48) = true from by rw [HST.out, h48]; rfl)
       clear h48
       go_wp2
       exact ⟨⟨j + 1, by go_num, by omega, by rw [HS2.out], trivial⟩, by simp [intOf]; omega⟩
     ·have HS2 := Lh (show (((bl g).drop 810).take (j + 1)).any (· != 48) = true from by rw [HST.out]; rfl)
      go_wp2
      exact ⟨⟨j + 1, by go_num, by omega, by rw [HS2.out], trivial⟩, by simp [intOf]; omega⟩
    ·have hz2 : (((bl g).drop 810).take j).any (· != 48) = true := by
      rw [List.take_of_length_le (by rw [List.length_drop, Bj, HGN.out]; omega)]
      exact HRB.out
     rw [hz2]
     have b4 : (g.size : Int) = (N : Int) := by rw [HGN.out]
     have b0 : decide (810 + (j : Int) < (N : Int)) = false := decide_eq_false (by omega)
     have b5 : (810 : Int) ≤ (g.size : Int) := by have := HN8.out; omega
     clear hz2
     rcases HUW.out with ⟨u4, rfl, u5, u6⟩ | ⟨u4, rfl, rfl⟩
     all_goals
      go_wp2_with fail
      refine (C3.out _).mono ?_
      rintro e w1 ⟨A1, n1, c1, rfl, g1, b1⟩
      have G1 := Lh g1
      have B1 := Lh b1
      clear g1 b1
      go_wp2_with fail
      refine (C4.out _).mono ?_
      rintro e w2 ⟨A2, n2, c2, rfl, g2, b2⟩
      have G2 := Lh g2
      have G1a := Lh (G1.out.step b2)
      have B2 := Lh (Aa B1.out b2)
      clear g2 b2
      go_wp2_with fail
      refine Bm (C5.out _ _ _ _ G2.out) fun w3 b3 => ?_
      have G2a := Lh (G2.out.step b3)
      have G1b := Lh (G1a.out.step b3)
      have B3 := Lh (Aa B2.out b3)
      clear b3
      go_wp2_with fail
      refine Bm (C6.out _ _ _ _ G1b.out) fun w4 b4 => ?_
      have G2b := Lh (G2a.out.step b4)
      have G1c := Lh (G1b.out.step b4)
      have B4 := Lh (Aa B3.out b4)
      clear b4
      go_wp2_with fail
      refine (C7.out _ _ _ _ G1c.out).mono ?_
      rintro e w5 ⟨A5, n5, c5, rfl, g5, b5⟩
      have G5 := Lh g5
      have G25 := Lh (G2b.out.step b5)
      have B5 := Lh (Aa B4.out b5)
      clear g5 b5
      go_wp2_with fail
      refine (C8.out _ _ _ _ _ _ _ G5.out G25.out).mono ?_
      rintro e w6 ⟨A6, n6, c6, A7, n7, c7, rfl, g6, g7, b6⟩
      have G6 := Lh g6
      have B6 := Lh (Aa B5.out b6)
      obtain rfl : n7 = 0 := by
       have h1 := g7.len
       rw [HREM.out] at h1
       exact h1.symm
      clear g6 g7 b6
      go_wp2_with fail
      refine (C9.out _ _ _ _ G6.out).mono ?_
      rintro e w7 ⟨A8, n8, c8, rfl, g8, b7⟩
      have G8 := Lh g8
      have B7 := Lh (Aa B6.out b7)
      clear g8 b7
      go_wp2_with fail
      refine Bm (C11.out _ _ _ _ G8.out) fun w9 b9 => ?_
      have B9 := Lh (Aa B7.out b9)
      clear b9
      go_wp2
      go_ret
      exact ⟨rfl, B9.out⟩
theorem L9 (s : ByteArray) (K N : Nat) (X P : Int) (m F : Nat) (D M Q Q2 bd ba : Nat) (x1 up x2 Y U : Int) (g : ByteArray) (y1 y2 : Int) (E : Int) (w : World) (hs : s.size ≤ 281474976710656) (hK : K ≤ s.size) (hN : s.size - K = N)
  (Z1 : Hid (∀ k (h : k < s.size), k < K → (s[k]'h).toNat = 48)) (Z2 : Hid (∀ h : K < s.size, (s[K]'h).toNat ≠ 48))
  (hN0 : 0 < N) (p1 : wrap64 ((N : Int) + X) = P) (t0 : ((N : Int) == 0) = false) (t1 : decide (400 < P) = false) (t2 : decide (P < -400) = false) (t3 : decide (820 < (N : Int)) = true)
  (hg : s.extract K s.size = g) (hgN : g.size = N) (hN8 : 820 < N) (hrb : ((bl g).drop 810).any (· != 48) = true)
  (q0 : wrap64 (X + (N : Int)) = y1) (q1 : wrap64 (y1 - 810) = y2) (q2 : wrap64 (y2 - 1) = E) (_q3 : ¬ 9223372036854775807 < (g.extract 0 810).size + 1) 
  (C3 : Hid (∀ W, Cp 314 #[.string (g.extract 0 810 ++ ⟨#[49]⟩), .int .i64 10] W (NOk m W)))
  (C4 : Hid (∀ W, Cp 315 #[.int .i64 (-E)] W (NRet D W)))
  (C5 : Hid (∀ W A1 n1 c1, NV W A1 n1 c1 D → Ct 311 #[.slice A1 n1 c1] (.int .i64 (bd : Nat)) W))
  (C6 : Hid (∀ W A1 n1 c1, NV W A1 n1 c1 m → Ct 311 #[.slice A1 n1 c1] (.int .i64 (ba : Nat)) W))
  (C7 : Hid (∀ W A1 n1 c1, NV W A1 n1 c1 m → Cp 317 #[.slice A1 n1 c1, .int .i64 U] W (NRet M W)))
  (C8 : Hid (∀ W A1 n1 c1 A2 n2 c2, NV W A1 n1 c1 M → NV W A2 n2 c2 D → Cp 316 #[.slice A1 n1 c1, .slice A2 n2 c2] W (Ul M D W)))
  (C9 : Hid (∀ W A1 n1 c1, NV W A1 n1 c1 (M / D) → Cp 317 #[.slice A1 n1 c1, .int .i64 1] W (NRet Q W)))
  (C10 : Hid (∀ W A1 n1 c1 A2 n2 c2, NV W A1 n1 c1 Q → NV W A2 n2 c2 1 → Cp 264 #[.slice A1 n1 c1, .slice A2 n2 c2] W (NRet Q2 W)))
  (C11 : Hid (∀ W A1 n1 c1, NV W A1 n1 c1 Q2 → Ct 266 #[.slice A1 n1 c1, .int .i64 Y] (.float .f64 F) W))
  (hrem : M % D ≠ 0)
  (u0 : decide (0 ≤ E) = false) (u1 : wrap64 (-E) = -E) (u2 : wrap64 ((bd : Int) - (ba : Int)) = x1) (u3 : wrap64 (x1 + 70) = up) (hu : (decide (up < 0) = false ∧ U = up ∧ wrap64 (-up) = x2 ∧ wrap64 (x2 - 1) = Y) ∨ (decide (up < 0) = true ∧ U = 0 ∧ Y = -1)) :
  Ct 267 #[.string s, .int .i64 X] (.float .f64 F) w := by
 have h1 : (s.size : Int) ≤ 281474976710656 := by omega
 have HN := Lh hN
 have HK := Lh hK
 have HN0 := Lh hN0
 have HREM := Lh hrem
 have HG := Lh hg
 have HGN := Lh hgN
 have HN8 := Lh hN8
 have HRB := Lh hrb
 have HUW := Lh hu
 clear hu hs hK hN hN0 hrem hg hgN hN8 hrb
 go_enter Tryz.func267, Tryz.ntmps267
 go_wp2
 go_loopw [5] (fun i wr => ∃ k : Nat, i = .int .i64 k ∧ k ≤ K ∧ w = wr) (fun i _ => K - (intOf i).toNat)
 case atStart => exact ⟨0, rfl, Nat.zero_le _, rfl⟩
 case round =>
  obtain ⟨k, rfl, hk, rfl⟩ := hrel
  have hk2 := HK.out
  by_cases hlt : k < K
  ·have hks : k < s.size := by omega
   have e0 : ((s[k]'hks).toNat : Int) = 48 := by rw [Z1.out k hks hlt]; rfl
   have a2 : (k : Int) < (s.size : Int) := by omega
   have a1 : (0 : Int) ≤ (k : Int) := by omega
   clear hk2
   go_wp2
   exact ⟨⟨k + 1, by go_num, by omega, trivial⟩, by simp [intOf]; omega⟩
  ·obtain rfl : k = K := by omega
   have hz : k < s.size := by have := HN.out; have := HN0.out; omega
   obtain ⟨B, hB⟩ : ∃ B : Nat, (s[k]'hz).toNat = B := ⟨_, rfl⟩
   have hB48 := Z2.out hz
   rw [hB] at hB48
   have e0 : ((s[k]'hz).toNat : Int) = (B : Int) := by rw [hB]
   have e1 : ((B : Int) == 48) = false := by rw [beq_eq_false_iff_ne]; omega
   have a2 : (k : Int) < (s.size : Int) := by omega
   have a1 : (0 : Int) ≤ (k : Int) := by omega
   have a3 : (k : Int) ≤ (s.size : Int) := by omega
   have a4 : ((s.size - k : Nat) : Int) = (N : Int) := by rw [HN.out]
   clear hk2 hB hB48
   have hext : s.extract k s.size = g := HG.out
   have b4 : (g.size : Int) = (N : Int) := by rw [HGN.out]
   go_wp2
   clear a1 a2 a3 e0 e1 hext hz b4
   go_loopw [6, 7] (fun v i wr => ∃ j : Nat, i = .int .i64 (810 + (j : Int)) ∧ 810 + j ≤ N ∧ v = .bool ((((bl g).drop 810).take j).any (· != 48)) ∧ w = wr) (fun _ i _ => N - (intOf i).toNat)
   case atStart => exact ⟨0, rfl, by have := HN8.out; omega, rfl, rfl⟩
   case round =>
    obtain ⟨j, rfl, hj, rfl, rfl⟩ := hrel
    by_cases hjl : 810 + j < N
    ·have hgs : 810 + j < g.size := by rw [HGN.out]; exact hjl
     obtain ⟨D8, hD8⟩ : ∃ D8 : Nat, (g[810 + j]'hgs).toNat = D8 := ⟨_, rfl⟩
     have hstep : (((bl g).drop 810).take (j + 1)).any (· != 48) = ((((bl g).drop 810).take j).any (· != 48) || (D8 != 48)) := by
      rw [List.take_add_one, List.getElem?_drop, Cg g (810 + j) hgs, hD8, List.any_append]
      simp
     have b0 : ((810 + (j : Int)) : Int) < (N : Int) := by omega
     have b1 : (0 : Int) ≤ 810 + (j : Int) := by omega
     have b2 : (810 + (j : Int)).toNat = 810 + j := by omega
     have b3 : ((g[810 + j]'hgs).toNat : Int) = (D8 : Int) := by rw [hD8]
     have b4 : (g.size : Int) = (N : Int) := by rw [HGN.out]
     have b5 : 810 + (j : Int) < (g.size : Int) := by omega
     obtain ⟨r, hr⟩ : ∃ r, (((bl g).drop 810).take j).any (· != 48) = r := ⟨_, rfl⟩
     rw [hr] at hstep ⊢
     have HST := Lh hstep
     clear hstep hr hD8
     cases r
     ·cases h48 : (D8 != 48)
      ·have b6 : ((D8 : Int) != 48) = false := by rw [bne_eq_false_iff_eq]; have := bne_eq_false_iff_eq.1 h48; omega
       have HS2 := Lh (show (((bl g).drop 810).take (j + 1)).any (· != 48) = false from by rw [HST.out, h48]; rfl)
       clear h48
       go_wp2
       exact ⟨⟨j + 1, by go_num, by omega, by rw [HS2.out], trivial⟩, by simp [intOf]; omega⟩
      ·have b6 : ((D8 : Int) != 48) = true := by rw [bne_iff_ne]; have := bne_iff_ne.1 h48; omega
       have HS2 := Lh (show (((bl g).drop 810).take (j + 1)).any (· != 48) = true from by rw [HST.out, h48]; rfl)
       clear h48
       go_wp2
       exact ⟨⟨j + 1, by go_num, by omega, by rw [HS2.out], trivial⟩, by simp [intOf]; omega⟩
     ·have HS2 := Lh (show (((bl g).drop 810).take (j + 1)).any (· != 48) = true from by rw [HST.out]; rfl)
      go_wp2
      exact ⟨⟨j + 1, by go_num, by omega, by rw [HS2.out], trivial⟩, by simp [intOf]; omega⟩
    ·have hz2 : (((bl g).drop 810).take j).any (· != 48) = true := by
      rw [List.take_of_length_le (by rw [List.length_drop, Bj, HGN.out]; omega)]
      exact HRB.out
     rw [hz2]
     have b4 : (g.size : Int) = (N : Int) := by rw [HGN.out]
     have b0 : decide (810 + (j : Int) < (N : Int)) = false := decide_eq_false (by omega)
     have b5 : (810 : Int) ≤ (g.size : Int) := by have := HN8.out; omega
     clear hz2
     rcases HUW.out with ⟨u4, rfl, u5, u6⟩ | ⟨u4, rfl, rfl⟩
     all_goals
      go_wp2_with fail
      refine (C3.out _).mono ?_
      rintro e w1 ⟨A1, n1, c1, rfl, g1, b1⟩
      have G1 := Lh g1
      have B1 := Lh b1
      clear g1 b1
      go_wp2_with fail
      refine (C4.out _).mono ?_
      rintro e w2 ⟨A2, n2, c2, rfl, g2, b2⟩
      have G2 := Lh g2
      have G1a := Lh (G1.out.step b2)
      have B2 := Lh (Aa B1.out b2)
      clear g2 b2
      go_wp2_with fail
      refine Bm (C5.out _ _ _ _ G2.out) fun w3 b3 => ?_
      have G2a := Lh (G2.out.step b3)
      have G1b := Lh (G1a.out.step b3)
      have B3 := Lh (Aa B2.out b3)
      clear b3
      go_wp2_with fail
      refine Bm (C6.out _ _ _ _ G1b.out) fun w4 b4 => ?_
      have G2b := Lh (G2a.out.step b4)
      have G1c := Lh (G1b.out.step b4)
      have B4 := Lh (Aa B3.out b4)
      clear b4
      go_wp2_with fail
      refine (C7.out _ _ _ _ G1c.out).mono ?_
      rintro e w5 ⟨A5, n5, c5, rfl, g5, b5⟩
      have G5 := Lh g5
      have G25 := Lh (G2b.out.step b5)
      have B5 := Lh (Aa B4.out b5)
      clear g5 b5
      go_wp2_with fail
      refine (C8.out _ _ _ _ _ _ _ G5.out G25.out).mono ?_
      rintro e w6 ⟨A6, n6, c6, A7, n7, c7, rfl, g6, g7, b6⟩
      have G6 := Lh g6
      have B6 := Lh (Aa B5.out b6)
      have hn7 : (0 : Int) < (n7 : Int) := by
       have h1 := g7.len
       have h2 : (wds (M % D)) ≠ [] := fun e => HREM.out (by have h3 := Ag (M % D); rw [e] at h3; exact h3.symm)
       have := List.length_pos_iff.2 h2
       omega
      clear g6 g7 b6
      go_wp2_with fail
      refine (C9.out _ _ _ _ G6.out).mono ?_
      rintro e w7 ⟨A8, n8, c8, rfl, g8, b7⟩
      have G8 := Lh g8
      have B7 := Lh (Aa B6.out b7)
      clear g8 b7
      have bl := Lh (show Below w7.heap.size w7 (w7.alloc (.cells #[.int .u32 1] 156)) from (Below.refl _ _).alloc (Nat.le_refl _) _)
      have C10' := Lh (C10.out _ _ _ _ _ _ _ (G8.out.step bl.out) (NV.lit w7 1 (by omega) (by omega)))
      go_wp2_with fail
      refine C10'.out.mono ?_
      rintro e w8 ⟨A9, n9, c9, rfl, g9, b8⟩
      have G9 := Lh g9
      have B8 := Lh (Aa (Aa B7.out bl.out) b8)
      clear g9 b8
      go_wp2_with fail
      refine Bm (C11.out _ _ _ _ G9.out) fun w9 b9 => ?_
      have B9 := Lh (Aa B8.out b9)
      clear b9
      go_wp2
      go_ret
      exact ⟨rfl, B9.out⟩


end
section
theorem Kn (m k : Nat) (h0 : 0 < m) (hb : bln m ≤ 3300) (hk : k ≤ 1300) : ∃ (D M bd ba : Nat) (U : Int), U = max 0 ((bd : Int) - ba + 70) ∧ bd ≤ 6000 ∧ ba ≤ 6000 ∧
  Hid (∀ W, Cp 315 #[.int .i64 (k : Nat)] W (NRet D W)) ∧
  Hid (∀ W A1 n1 c1, NV W A1 n1 c1 D → Ct 311 #[.slice A1 n1 c1] (.int .i64 (bd : Nat)) W) ∧
  Hid (∀ W A1 n1 c1, NV W A1 n1 c1 m → Ct 311 #[.slice A1 n1 c1] (.int .i64 (ba : Nat)) W) ∧
  Hid (∀ W A1 n1 c1, NV W A1 n1 c1 m → Cp 317 #[.slice A1 n1 c1, .int .i64 U] W (NRet M W)) ∧
  Hid (∀ W A1 n1 c1 A2 n2 c2, NV W A1 n1 c1 M → NV W A2 n2 c2 D → Cp 316 #[.slice A1 n1 c1, .slice A2 n2 c2] W (Ul M D W)) ∧
  Hid (∀ W A1 n1 c1, NV W A1 n1 c1 (M / D) → Cp 317 #[.slice A1 n1 c1, .int .i64 1] W (NRet (M / D * 2) W)) ∧
  Hid (∀ W A1 n1 c1 A2 n2 c2, NV W A1 n1 c1 (M / D * 2) → NV W A2 n2 c2 1 → Cp 264 #[.slice A1 n1 c1, .slice A2 n2 c2] W (NRet (M / D * 2 + 1) W)) ∧
  (M % D = 0 → Hid (∀ W A1 n1 c1, NV W A1 n1 c1 (M / D * 2) → Ct 266 #[.slice A1 n1 c1, .int .i64 (-U - 1)] (.float .f64 (Bq m (-(k : Int)))) W)) ∧
  (M % D ≠ 0 → Hid (∀ W A1 n1 c1, NV W A1 n1 c1 (M / D * 2 + 1) → Ct 266 #[.slice A1 n1 c1, .int .i64 (-U - 1)] (.float .f64 (Bq m (-(k : Int)))) W)) := by
 obtain ⟨u1, u2, u3⟩ := Ck h0
 obtain ⟨v1, v2, v3⟩ := Ck (Bv k)
 have ft := Gs k
 obtain ⟨D, hD⟩ : ∃ D, 10 ^ k = D := ⟨_, rfl⟩
 rw [hD] at v1 v2 v3 ft
 obtain ⟨bd, hbd⟩ : ∃ bd, bln D = bd := ⟨_, rfl⟩
 obtain ⟨ba, hba⟩ : ∃ ba, bln m = ba := ⟨_, rfl⟩
 have hD0 : 0 < D := by rw [← hD]; exact Bv k
 obtain ⟨up, hup⟩ : ∃ up : Nat, (up : Int) = max 0 ((bd : Int) - ba + 70) := ⟨(max 0 ((bd : Int) - ba + 70)).toNat, by omega⟩
 have g1 := F3 m (2 ^ up)
 have g2 := Ka up
 obtain ⟨M, hM⟩ : ∃ M, m * 2 ^ up = M := ⟨_, rfl⟩
 have hM0 : 0 < M := by rw [← hM]; exact Nat.mul_pos h0 (Da _)
 rw [hM] at g1
 rw [hba] at hb u1 u2 u3 g1
 rw [hbd] at v1 v2 v3 ft
 have hup2 : up ≤ 5400 := by omega
 obtain ⟨p, rfl⟩ : ∃ p, ba = p + 1 := ⟨ba - 1, by omega⟩
 obtain ⟨r, rfl⟩ : ∃ r, bd = r + 1 := ⟨bd - 1, by omega⟩
 rw [Nat.add_sub_cancel] at u1 v1
 have hbig := (Ko (x := up) (y := 0) u1 u2 v1 v2 60).2 (by omega)
 rw [Nat.pow_zero, Nat.mul_one, hM] at hbig
 have hqM : M / D ≤ M := Nat.div_le_self _ _
 have l1 := Dr hqM
 have l2 := Dr (show M / D * 2 ≤ M * 4 by omega)
 have l3 := Dr (show M / D * 2 + 1 ≤ M * 4 by omega)
 have l4 := F3 M 4
 rw [show bln 4 = 3 by decide] at l4
 obtain ⟨q, hq⟩ : ∃ q, M / D = q := ⟨_, rfl⟩
 obtain ⟨t, ht⟩ : ∃ t, M % D = t := ⟨_, rfl⟩
 have hNd : M = q * D + t := by rw [← hq, ← ht, Nat.mul_comm]; exact (Nat.div_add_mod M D).symm
 have htd : t < D := by rw [← ht]; exact Nat.mod_lt _ hD0
 obtain ⟨a, ha⟩ : ∃ a, 1074 - up = a := ⟨_, rfl⟩
 obtain ⟨b, hb2⟩ : ∃ b, up - 1074 = b := ⟨_, rfl⟩
 have key := fun s hs => Aay (m := m) (N := M) (q := q) (t := t) (s := s) (k := k) (up := up) (a := a) (b := b) hM.symm (by rw [hD]; exact hNd) (by rw [hD]; exact htd) hs (by rw [← hq]; exact hbig) ha.symm hb2.symm
 rw [hq] at l1 l2 l3
 refine ⟨D, M, r + 1, p + 1, (up : Int), hup, by omega, by omega, Lh (fun W => ?_), Lh (fun W A1 n1 c1 h => ?_), Lh (fun W A1 n1 c1 h => ?_), Lh (fun W A1 n1 c1 h => ?_), Lh (fun W A1 n1 c1 A2 n2 c2 h g => Ad8 h g (by omega) (by omega) hD0), Lh (fun W A1 n1 c1 h => ?_), Lh (fun W A1 n1 c1 A2 n2 c2 h g => Ajs h g (by rw [hq]; omega) (by decide)), ?_, ?_⟩
 ·rw [← hD]; exact Ta k W (by omega)
 ·rw [← hbd]; exact Afc h (by omega)
 ·rw [← hba]; exact Afc h (by omega)
 ·rw [← hM]; exact Aj6 h up (by omega) (by omega)
 ·exact Aj6 h 1 (by rw [hq]; omega) (by omega)
 ·rw [hq, ht]
  intro h1
  have k1 := key 0 (by rw [if_pos h1])
  rw [Nat.add_zero, Nat.mul_comm 2 q] at k1
  exact Lh (fun W A1 n1 c1 h => by rw [← k1]; exact Sj h (by omega) a (b + 1) (-(up : Int) - 1) (by omega) (by omega) (by omega))
 ·rw [hq, ht]
  intro h1
  have k1 := key 1 (by rw [if_neg h1])
  rw [Nat.mul_comm 2 q] at k1
  exact Lh (fun W A1 n1 c1 h => by rw [← k1]; exact Sj h (by omega) a (b + 1) (-(up : Int) - 1) (by omega) (by omega) (by omega))
theorem Lk (m k : Nat) (hb : bln m ≤ 3300) (hk : k ≤ 1300) : ∃ (D M : Nat),
  Hid (∀ W, Cp 315 #[.int .i64 (k : Nat)] W (NRet D W)) ∧
  Hid (∀ W A1 n1 c1 A2 n2 c2, NV W A1 n1 c1 m → NV W A2 n2 c2 D → Cp 265 #[.slice A1 n1 c1, .slice A2 n2 c2] W (NRet M W)) ∧
  Hid (∀ W A1 n1 c1, NV W A1 n1 c1 M → Ct 266 #[.slice A1 n1 c1, .int .i64 0] (.float .f64 (Bq m (k : Int))) W) := by
 have ft := Gs k
 have g1 := F3 m (10 ^ k)
 refine ⟨10 ^ k, m * 10 ^ k, Lh (fun W => Ta k W (by omega)), Lh (fun W A1 n1 c1 A2 n2 c2 h g => Z3 h g (by omega) (by omega)), Lh (fun W A1 n1 c1 h => ?_)⟩
 obtain ⟨K, hK, hd⟩ := Fp
 have := Sj h (by omega) K 0 0 (by omega) (by omega) (by omega)
 rw [hd, show ((k : Int)).toNat = k by omega, show (-(k : Int)).toNat = 0 by omega]
 exact this
theorem Wl (s : ByteArray) (K N : Nat) (X P : Int) (m : Nat) (w : World) (hs : s.size ≤ 281474976710656) (hK : K ≤ s.size) (hN : s.size - K = N)
  (Z1 : Hid (∀ k (h : k < s.size), k < K → (s[k]'h).toNat = 48)) (Z2 : Hid (∀ h : K < s.size, (s[K]'h).toNat ≠ 48))
  (hN0 : 0 < N) (p1 : wrap64 ((N : Int) + X) = P) (t0 : ((N : Int) == 0) = false) (t1 : decide (400 < P) = false) (t2 : decide (P < -400) = false) (t3 : decide (820 < (N : Int)) = false)
  (C3 : Hid (∀ W, Cp 314 #[.string (s.extract K s.size), .int .i64 10] W (NOk m W))) (h0 : 0 < m) (hb : bln m ≤ 3300) (hE1 : -1300 ≤ X) (hE2 : X ≤ 1300) :
  Ct 267 #[.string s, .int .i64 X] (.float .f64 (Bq m X)) w := by
 by_cases hp : 0 ≤ X
 ·obtain ⟨k, rfl⟩ : ∃ k : Nat, X = k := ⟨X.toNat, by omega⟩
  obtain ⟨D, M, C4, C5, C6⟩ := Lk m k hb (by omega)
  exact Om (w := w) (hs := hs) (hK := hK) (hN := hN) (Z1 := Z1) (Z2 := Z2) (C3 := C3) (C4 := C4) (C5 := C5) (C6 := C6) (u0 := decide_eq_true hp) (hN0 := hN0) (p1 := p1) (t0 := t0) (t1 := t1) (t2 := t2) (t3 := t3)
 ·obtain ⟨k, rfl⟩ : ∃ k : Nat, X = -(k : Int) := ⟨(-X).toNat, by omega⟩
  obtain ⟨D, M, bd, ba, U, hU, e1, e2, C4, C5, C6, C7, C8, C9, C10, C11, C12⟩ := Kn m k h0 hb (by omega)
  rw [show (k : Int) = -(-(k : Int)) by omega] at C4
  have u0 : decide (0 ≤ -(k : Int)) = false := decide_eq_false hp
  have u1 : wrap64 (- -(k : Int)) = - -(k : Int) := by unfold wrap64; omega
  have u2 : wrap64 ((bd : Int) - (ba : Int)) = (bd : Int) - ba := by unfold wrap64; omega
  have u3 : wrap64 ((bd : Int) - ba + 70) = (bd : Int) - ba + 70 := by unfold wrap64; omega
  have hu : (decide ((bd : Int) - ba + 70 < 0) = false ∧ U = (bd : Int) - ba + 70 ∧ wrap64 (-((bd : Int) - ba + 70)) = -((bd : Int) - ba + 70) ∧ wrap64 (-((bd : Int) - ba + 70) - 1) = -U - 1) ∨ (decide ((bd : Int) - ba + 70 < 0) = true ∧ U = 0 ∧ -U - 1 = -1) := by
   by_cases hU0 : (bd : Int) - ba + 70 < 0
   ·exact .inr ⟨decide_eq_true hU0, by omega, by omega⟩
   ·exact .inl ⟨decide_eq_false hU0, by omega, by unfold wrap64; omega, by unfold wrap64; omega⟩
  by_cases hr : M % D = 0
  ·exact Mc (w := w) (hs := hs) (hK := hK) (hN := hN) (Z1 := Z1) (Z2 := Z2) (C3 := C3) (C4 := C4) (C5 := C5) (C6 := C6) (C7 := C7) (C8 := C8) (C9 := C9) (C11 := C11 hr) (hrem := hr) (u0 := u0) (u1 := u1) (u2 := u2) (u3 := u3) (hu := hu) (hN0 := hN0) (p1 := p1) (t0 := t0) (t1 := t1) (t2 := t2) (t3 := t3)
  ·exact L7 (w := w) (hs := hs) (hK := hK) (hN := hN) (Z1 := Z1) (Z2 := Z2) (C3 := C3) (C4 := C4) (C5 := C5) (C6 := C6) (C7 := C7) (C8 := C8) (C9 := C9) (C10 := C10) (C11 := C12 hr) (hrem := hr) (u0 := u0) (u1 := u1) (u2 := u2) (u3 := u3) (hu := hu) (hN0 := hN0) (p1 := p1) (t0 := t0) (t1 := t1) (t2 := t2) (t3 := t3)
theorem Wr (s : ByteArray) (K N : Nat) (X P : Int) (m : Nat) (g : ByteArray) (y1 : Int) (E : Int) (w : World) (hs : s.size ≤ 281474976710656) (hK : K ≤ s.size) (hN : s.size - K = N)
  (Z1 : Hid (∀ k (h : k < s.size), k < K → (s[k]'h).toNat = 48)) (Z2 : Hid (∀ h : K < s.size, (s[K]'h).toNat ≠ 48))
  (hN0 : 0 < N) (p1 : wrap64 ((N : Int) + X) = P) (t0 : ((N : Int) == 0) = false) (t1 : decide (400 < P) = false) (t2 : decide (P < -400) = false) (t3 : decide (820 < (N : Int)) = true)
  (hg : s.extract K s.size = g) (hgN : g.size = N) (hN8 : 820 < N) (hrb : ((bl g).drop 810).any (· != 48) = false)
  (q0 : wrap64 (X + (N : Int)) = y1) (q1 : wrap64 (y1 - 810) = E)
  (C3 : Hid (∀ W, Cp 314 #[.string (g.extract 0 810), .int .i64 10] W (NOk m W))) (h0 : 0 < m) (hb : bln m ≤ 3300) (hE1 : -1300 ≤ E) (hE2 : E ≤ 1300) :
  Ct 267 #[.string s, .int .i64 X] (.float .f64 (Bq m E)) w := by
 by_cases hp : 0 ≤ E
 ·obtain ⟨k, rfl⟩ : ∃ k : Nat, E = k := ⟨E.toNat, by omega⟩
  obtain ⟨D, M, C4, C5, C6⟩ := Lk m k hb (by omega)
  exact Mu (w := w) (hs := hs) (hK := hK) (hN := hN) (Z1 := Z1) (Z2 := Z2) (C3 := C3) (C4 := C4) (C5 := C5) (C6 := C6) (u0 := decide_eq_true hp) (hN0 := hN0) (p1 := p1) (t0 := t0) (t1 := t1) (t2 := t2) (t3 := t3) (hg := hg) (hgN := hgN) (hN8 := hN8) (hrb := hrb) (q0 := q0) (q1 := q1)
 ·obtain ⟨k, rfl⟩ : ∃ k : Nat, E = -(k : Int) := ⟨(-E).toNat, by omega⟩
  obtain ⟨D, M, bd, ba, U, hU, e1, e2, C4, C5, C6, C7, C8, C9, C10, C11, C12⟩ := Kn m k h0 hb (by omega)
  rw [show (k : Int) = -(-(k : Int)) by omega] at C4
  have u0 : decide (0 ≤ -(k : Int)) = false := decide_eq_false hp
  have u1 : wrap64 (- -(k : Int)) = - -(k : Int) := by unfold wrap64; omega
  have u2 : wrap64 ((bd : Int) - (ba : Int)) = (bd : Int) - ba := by unfold wrap64; omega
  have u3 : wrap64 ((bd : Int) - ba + 70) = (bd : Int) - ba + 70 := by unfold wrap64; omega
  have hu : (decide ((bd : Int) - ba + 70 < 0) = false ∧ U = (bd : Int) - ba + 70 ∧ wrap64 (-((bd : Int) - ba + 70)) = -((bd : Int) - ba + 70) ∧ wrap64 (-((bd : Int) - ba + 70) - 1) = -U - 1) ∨ (decide ((bd : Int) - ba + 70 < 0) = true ∧ U = 0 ∧ -U - 1 = -1) := by
   by_cases hU0 : (bd : Int) - ba + 70 < 0
   ·exact .inr ⟨decide_eq_true hU0, by omega, by omega⟩
   ·exact .inl ⟨decide_eq_false hU0, by omega, by unfold wrap64; omega, by unfold wrap64; omega⟩
  by_cases hr : M % D = 0
  ·exact Ma (w := w) (hs := hs) (hK := hK) (hN := hN) (Z1 := Z1) (Z2 := Z2) (C3 := C3) (C4 := C4) (C5 := C5) (C6 := C6) (C7 := C7) (C8 := C8) (C9 := C9) (C11 := C11 hr) (hrem := hr) (u0 := u0) (u1 := u1) (u2 := u2) (u3 := u3) (hu := hu) (hN0 := hN0) (p1 := p1) (t0 := t0) (t1 := t1) (t2 := t2) (t3 := t3) (hg := hg) (hgN := hgN) (hN8 := hN8) (hrb := hrb) (q0 := q0) (q1 := q1)
  ·exact L8 (w := w) (hs := hs) (hK := hK) (hN := hN) (Z1 := Z1) (Z2 := Z2) (C3 := C3) (C4 := C4) (C5 := C5) (C6 := C6) (C7 := C7) (C8 := C8) (C9 := C9) (C10 := C10) (C11 := C12 hr) (hrem := hr) (u0 := u0) (u1 := u1) (u2 := u2) (u3 := u3) (hu := hu) (hN0 := hN0) (p1 := p1) (t0 := t0) (t1 := t1) (t2 := t2) (t3 := t3) (hg := hg) (hgN := hgN) (hN8 := hN8) (hrb := hrb) (q0 := q0) (q1 := q1)
theorem Xb (s : ByteArray) (K N : Nat) (X P : Int) (m : Nat) (g : ByteArray) (y1 y2 : Int) (E : Int) (w : World) (hs : s.size ≤ 281474976710656) (hK : K ≤ s.size) (hN : s.size - K = N)
  (Z1 : Hid (∀ k (h : k < s.size), k < K → (s[k]'h).toNat = 48)) (Z2 : Hid (∀ h : K < s.size, (s[K]'h).toNat ≠ 48))
  (hN0 : 0 < N) (p1 : wrap64 ((N : Int) + X) = P) (t0 : ((N : Int) == 0) = false) (t1 : decide (400 < P) = false) (t2 : decide (P < -400) = false) (t3 : decide (820 < (N : Int)) = true)
  (hg : s.extract K s.size = g) (hgN : g.size = N) (hN8 : 820 < N) (hrb : ((bl g).drop 810).any (· != 48) = true)
  (q0 : wrap64 (X + (N : Int)) = y1) (q1 : wrap64 (y1 - 810) = y2) (q2 : wrap64 (y2 - 1) = E) (q3 : ¬ 9223372036854775807 < (g.extract 0 810).size + 1)
  (C3 : Hid (∀ W, Cp 314 #[.string (g.extract 0 810 ++ ⟨#[49]⟩), .int .i64 10] W (NOk m W))) (h0 : 0 < m) (hb : bln m ≤ 3300) (hE1 : -1300 ≤ E) (hE2 : E ≤ 1300) :
  Ct 267 #[.string s, .int .i64 X] (.float .f64 (Bq m E)) w := by
 by_cases hp : 0 ≤ E
 ·obtain ⟨k, rfl⟩ : ∃ k : Nat, E = k := ⟨E.toNat, by omega⟩
  obtain ⟨D, M, C4, C5, C6⟩ := Lk m k hb (by omega)
  exact My (w := w) (hs := hs) (hK := hK) (hN := hN) (Z1 := Z1) (Z2 := Z2) (C3 := C3) (C4 := C4) (C5 := C5) (C6 := C6) (u0 := decide_eq_true hp) (hN0 := hN0) (p1 := p1) (t0 := t0) (t1 := t1) (t2 := t2) (t3 := t3) (hg := hg) (hgN := hgN) (hN8 := hN8) (hrb := hrb) (q0 := q0) (q1 := q1) (q2 := q2) (_q3 := q3)
 ·obtain ⟨k, rfl⟩ : ∃ k : Nat, E = -(k : Int) := ⟨(-E).toNat, by omega⟩
  obtain ⟨D, M, bd, ba, U, hU, e1, e2, C4, C5, C6, C7, C8, C9, C10, C11, C12⟩ := Kn m k h0 hb (by omega)
  rw [show (k : Int) = -(-(k : Int)) by omega] at C4
  have u0 : decide (0 ≤ -(k : Int)) = false := decide_eq_false hp
  have u1 : wrap64 (- -(k : Int)) = - -(k : Int) := by unfold wrap64; omega
  have u2 : wrap64 ((bd : Int) - (ba : Int)) = (bd : Int) - ba := by unfold wrap64; omega
  have u3 : wrap64 ((bd : Int) - ba + 70) = (bd : Int) - ba + 70 := by unfold wrap64; omega
  have hu : (decide ((bd : Int) - ba + 70 < 0) = false ∧ U = (bd : Int) - ba + 70 ∧ wrap64 (-((bd : Int) - ba + 70)) = -((bd : Int) - ba + 70) ∧ wrap64 (-((bd : Int) - ba + 70) - 1) = -U - 1) ∨ (decide ((bd : Int) - ba + 70 < 0) = true ∧ U = 0 ∧ -U - 1 = -1) := by
   by_cases hU0 : (bd : Int) - ba + 70 < 0
   ·exact .inr ⟨decide_eq_true hU0, by omega, by omega⟩
   ·exact .inl ⟨decide_eq_false hU0, by omega, by unfold wrap64; omega, by unfold wrap64; omega⟩
  by_cases hr : M % D = 0
  ·exact Mb (w := w) (hs := hs) (hK := hK) (hN := hN) (Z1 := Z1) (Z2 := Z2) (C3 := C3) (C4 := C4) (C5 := C5) (C6 := C6) (C7 := C7) (C8 := C8) (C9 := C9) (C11 := C11 hr) (hrem := hr) (u0 := u0) (u1 := u1) (u2 := u2) (u3 := u3) (hu := hu) (hN0 := hN0) (p1 := p1) (t0 := t0) (t1 := t1) (t2 := t2) (t3 := t3) (hg := hg) (hgN := hgN) (hN8 := hN8) (hrb := hrb) (q0 := q0) (q1 := q1) (q2 := q2) (_q3 := q3)
  ·exact L9 (w := w) (hs := hs) (hK := hK) (hN := hN) (Z1 := Z1) (Z2 := Z2) (C3 := C3) (C4 := C4) (C5 := C5) (C6 := C6) (C7 := C7) (C8 := C8) (C9 := C9) (C10 := C10) (C11 := C12 hr) (hrem := hr) (u0 := u0) (u1 := u1) (u2 := u2) (u3 := u3) (hu := hu) (hN0 := hN0) (p1 := p1) (t0 := t0) (t1 := t1) (t2 := t2) (t3 := t3) (hg := hg) (hgN := hgN) (hN8 := hN8) (hrb := hrb) (q0 := q0) (q1 := q1) (q2 := q2) (_q3 := q3)
theorem I6 (l : List Nat) (w : World) (hd : ∀ c ∈ l, Ah c = true) (h0 : l ≠ []) (hl : l.length ≤ 820) : Cp 314 #[.string (Ad l), .int .i64 10] w (NOk (num 10 l) w) := by
 have hb := Al (F0 hd)
 have hz := Ak l
 have hp : 0 < l.length := List.length_pos_iff.2 h0
 have h := Aa7 (Ad l) 10 w (by omega) (by omega) (by omega) (fun i hi => by
  rw [Ry _ _ hi, hb, List.getD_eq_getElem?_getD, List.getElem?_eq_getElem (by omega)]
  exact (Jh (hd _ (List.getElem_mem _))).2) (by omega)
 rw [Q9, hb] at h
 refine h.mono fun e w' x => NOk.of (Ee ?_) x
 have h1 := Hu hd
 have h2 := Dr (Nat.le_of_lt h1)
 have h3 := Gs l.length
 omega
theorem Ob {l : List Nat} (hd : ∀ c ∈ l, Ah c = true) (hl : l.length ≤ 820) : bln (num 10 l) ≤ 3300 := by
 have h2 := Dr (Nat.le_of_lt (Hu hd))
 have h3 := Gs l.length
 omega
theorem Vu (f : List Nat) : f.drop (f.length - (ldz f).length) = ldz f := by
 obtain ⟨z, hz⟩ := Cs f
 have hz' : f = List.replicate z 48 ++ ldz f := hz
 have hl := congrArg List.length hz'
 rw [List.length_append, List.length_replicate] at hl
 rw [show f.length - (ldz f).length = z by omega]
 conv => lhs; rw [hz']
 rw [List.drop_append, List.drop_of_length_le (by simp)]
 simp
theorem Pc (f : List Nat) (k : Nat) (h : k < f.length - (ldz f).length) : f[k]? = some 48 := by
 obtain ⟨z, hz⟩ := Cs f
 have hz' : f = List.replicate z 48 ++ ldz f := hz
 have hl := congrArg List.length hz'
 rw [List.length_append, List.length_replicate] at hl
 rw [hz', List.getElem?_append_left (by rw [List.length_replicate]; omega), List.getElem?_replicate, if_pos (by omega)]
theorem Fc (f : List Nat) (X : Int) (w : World) (hd : ∀ c ∈ f, Ah c = true) (hl : f.length ≤ 281474976710656) (hX : -1125899906842624 < X ∧ X < 1125899906842624) :
  Ct 267 #[.string (Ad f), .int .i64 X] (.float .f64 (Bq (num 10 f) X)) w := by
 have hb := Al (F0 hd)
 have hz := Ak f
 have hg : ∀ c ∈ ldz f, Ah c = true := fun c hc => hd c (Eu hc)
 have hgl : (ldz f).length ≤ f.length := (List.dropWhile_sublist _).length_le
 have hdr := Vu f
 have hex : (Ad f).extract (f.length - (ldz f).length) (Ad f).size = Ad (ldz f) := by rw [Jm, hb, hdr]
 have hnum : num 10 (ldz f) = num 10 f := Ch 10 f
 have Z1 : Hid (∀ k (h : k < (Ad f).size), k < f.length - (ldz f).length → ((Ad f)[k]'h).toNat = 48) := Lh (fun k h hk => by
  have h1 := Cg (Ad f) k h
  rw [hb, Pc f k hk] at h1
  exact (Option.some.inj h1).symm)
 have Z2 : Hid (∀ h : f.length - (ldz f).length < (Ad f).size, ((Ad f)[f.length - (ldz f).length]'h).toNat ≠ 48) := Lh (fun h e => by
  have h1 := Cg (Ad f) _ h
  rw [hb, e] at h1
  have h2 : (f.drop (f.length - (ldz f).length)).head? = some 48 := by rw [List.head?_drop]; exact h1
  rw [hdr] at h2
  exact Bx f h2)
 obtain ⟨N, hN⟩ : ∃ N, (ldz f).length = N := ⟨_, rfl⟩
 obtain ⟨K, hK⟩ : ∃ K, f.length - (ldz f).length = K := ⟨_, rfl⟩
 rw [hK] at hex Z1 Z2
 have a1 : (Ad f).size ≤ 281474976710656 := by omega
 have a2 : K ≤ (Ad f).size := by omega
 have a3 : (Ad f).size - K = N := by omega
 by_cases h0 : N = 0
 ·have : ldz f = [] := List.length_eq_zero_iff.1 (by omega)
  rw [show Bq (num 10 f) X = 0 by rw [← hnum, this, Zv, P3]]
  exact Abt (Ad f) K N X w a1 a2 a3 Z1 Z2 h0
 ·have hne : ldz f ≠ [] := fun e => h0 (by rw [← hN, e]; rfl)
  have p1 : wrap64 ((N : Int) + X) = (N : Int) + X := by unfold wrap64; omega
  have t0 : ((N : Int) == 0) = false := by rw [beq_eq_false_iff_ne]; omega
  by_cases h1 : 400 < (N : Int) + X
  ·rw [Aaj hd hne (by omega)]
   exact Acb (Ad f) K N X _ w a1 a2 a3 Z1 Z2 (by omega) p1 t0 (decide_eq_true h1)
  ·by_cases h2 : (N : Int) + X < -400
   ·rw [← hnum, Qh (Hu hg) (by omega)]
    exact Ac4 (Ad f) K N X _ w a1 a2 a3 Z1 Z2 (by omega) p1 t0 (decide_eq_false h1) (decide_eq_true h2)
   ·by_cases h3 : 820 < (N : Int)
    ·have hlen : (Ad (ldz f)).size = N := by rw [Ak, hN]
     have hbg := Al (F0 hg)
     have q0 : wrap64 (X + (N : Int)) = X + N := by unfold wrap64; omega
     have hlt : ((ldz f).take 810).length = 810 := by rw [List.length_take]; omega
     have htd : ∀ c ∈ (ldz f).take 810, Ah c = true := fun c hc => hg c (List.mem_of_mem_take hc)
     have ht0 : (ldz f).take 810 ≠ [] := fun e => by rw [e] at hlt; simp at hlt
     have hth : ((ldz f).take 810).head? ≠ some 48 := by rw [Qj (by omega)]; exact Bx f
     have hx8 : (Ad (ldz f)).extract 0 810 = Ad ((ldz f).take 810) := by rw [Gj, hbg]
     cases hrb : ((ldz f).drop 810).any (· != 48)
     ·have hc : ∀ c ∈ (ldz f).drop 810, c = 48 := fun c hc => by
       have := List.any_eq_false.1 hrb c hc
       simpa using this
      rw [Aao hc, hN, show X + ((N - 810 : Nat) : Int) = X + N - 810 by omega]
      have C3 : Hid (∀ W, Cp 314 #[.string ((Ad (ldz f)).extract 0 810), .int .i64 10] W (NOk (num 10 ((ldz f).take 810)) W)) := Lh (fun W => by
       rw [hx8]
       exact I6 _ W htd ht0 (by omega))
      exact Wr (Ad f) K N X _ (num 10 ((ldz f).take 810)) (Ad (ldz f)) (X + N) (X + N - 810) w a1 a2 a3 Z1 Z2 (by omega) p1 t0 (decide_eq_false h1) (decide_eq_false h2) (decide_eq_true h3) hex hlen (by omega) (by rw [hbg]; exact hrb) q0 (by unfold wrap64; omega) C3
       (Nat.lt_of_lt_of_le (Bv _) (Hv htd ht0 hth)) (Ob htd (by omega)) (by omega) (by omega)
     ·obtain ⟨c, hc1, hc2⟩ := List.any_eq_true.1 hrb
      rw [Abu hd (by omega) (by omega) ⟨c, hc1, by simpa using hc2⟩, hN, show X + ((N - 810 : Nat) : Int) - 1 = X + N - 810 - 1 by omega]
      obtain ⟨l, hl2⟩ : ∃ l, (ldz f).take 810 ++ [49] = l := ⟨_, rfl⟩
      have ll : l.length = 811 := by rw [← hl2, List.length_append, hlt]; rfl
      have ld : ∀ c ∈ l, Ah c = true := by
       intro c hc
       rw [← hl2] at hc
       rcases List.mem_append.1 hc with h | h
       ·exact htd c h
       ·rw [List.mem_singleton.1 h]; rfl
      have l0 : l ≠ [] := fun e => by rw [e] at ll; simp at ll
      have lh : l.head? ≠ some 48 := by
       rw [← hl2]
       cases ht : (ldz f).take 810 with
       | nil => exact absurd ht ht0
       | cons a b =>
        rw [ht] at hth
        exact hth
      have hstr : (Ad (ldz f)).extract 0 810 ++ (⟨#[49]⟩ : ByteArray) = Ad l := by
       rw [hx8, ← hl2, ← Fb]
       rfl
      rw [hl2]
      have C3 : Hid (∀ W, Cp 314 #[.string ((Ad (ldz f)).extract 0 810 ++ ⟨#[49]⟩), .int .i64 10] W (NOk (num 10 l) W)) := Lh (fun W => by
       rw [hstr]
       exact I6 _ W ld l0 (by omega))
      exact Xb (Ad f) K N X _ (num 10 l) (Ad (ldz f)) (X + N) (X + N - 810) (X + N - 810 - 1) w a1 a2 a3 Z1 Z2 (by omega) p1 t0 (decide_eq_false h1) (decide_eq_false h2) (decide_eq_true h3) hex hlen (by omega) (by rw [hbg]; exact hrb) q0 (by unfold wrap64; omega) (by unfold wrap64; omega) (by rw [hx8, Ak]; omega) C3
       (Nat.lt_of_lt_of_le (Bv _) (Hv ld l0 lh)) (Ob ld (by omega)) (by omega) (by omega)
    ·rw [← hnum]
     have C3 : Hid (∀ W, Cp 314 #[.string ((Ad f).extract K (Ad f).size), .int .i64 10] W (NOk (num 10 (ldz f)) W)) := Lh (fun W => by
      rw [hex]
      exact I6 _ W hg hne (by omega))
     exact Wl (Ad f) K N X _ (num 10 (ldz f)) w a1 a2 a3 Z1 Z2 (by omega) p1 t0 (decide_eq_false h1) (decide_eq_false h2) (decide_eq_false h3) C3
      (Nat.lt_of_lt_of_le (Bv _) (Hv hg hne (Bx f))) (Ob hg (by omega)) (by omega) (by omega)


end
end Go.Proofs.YtmimeejjaneedaaGreatDoor
