/-
  Merged texts (Dh, St, Sa, Sc, Sd, BG, Nv, Tc, Tj, Wf, Wg, Wh, Wi, Wk, Sf, Te, Wa, Wb, Wc, Sb, Se, Tf).
-/
import Derived.Test.YtmakhfekiieneaaGreatDoorQcc
import Derived.Lib.SlTrimSet
import Derived.Lib.Case
import Derived.Lib.AppendIntMem
open Go.RowKit
set_option maxRecDepth 100000
set_option maxHeartbeats 40000000
namespace Go.Proofs.YtmakhfekiieneaaGreatDoor
section
def hxA (l : List Nat) : Bool := l.head? == some 48 && (l.tail.head? == some 120 || l.tail.head? == some 88)
def Pl (c : Nat) : Bool := decide (dgt c < 16)
def hxB (l : List Nat) : Bool := hxA l && !(l.drop 2).isEmpty && (l.drop 2).all Pl
def Fs (r : Nat) (f : List Nat) : Nat := Bp (num r f) 0
def infL : List Nat := [73, 110, 102, 105, 110, 105, 116, 121]
def P7 (l : List Nat) : Bool := infL.isPrefixOf l
def sgW (s : Bool) (r : Nat) : Nat := if s = true then 9223372036854775808 + r else r
def Me : Nat := 9221120237041090560
def H8 (l : List Nat) : Nat :=
 if l = [] then 0 else if hxB l = true then Fs 16 (l.drop 2)
 else if Bj l = infL then sgW (Eh l) 9218868437227405312
 else if dB (Bj l) = true ∧ dR (Bj l) = [] then sgW (Eh l) (dV (Bj l)) else Me
def dgq (r : Nat) (c : Nat) : Bool := decide (dgt c < r)
/-! ### Bytes of no number -/
def Cf (c : Nat) : Nat := if c = 0 then 1 else c
theorem Agy {c : Nat} (h : c ≠ 0) : Cf c = c := if_neg h
theorem Ab5 {c k : Nat} (hk : 2 ≤ k) : Cf c = k ↔ c = k := by unfold Cf; split <;> omega
theorem V5 (c : Nat) : Bw (Cf c) = Bw c := by unfold Cf; split <;> (try subst c) <;> rfl
theorem Abr (c : Nat) : dgt (Cf c) = dgt c := by unfold Cf; split <;> (try subst c) <;> rfl
theorem Ace {l : List Nat} (h : ∀ c ∈ l, c ≠ 0) : l.map Cf = l := by
 induction l with
 | nil => rfl
 | cons c r ih => rw [List.map_cons, Agy (h c (by simp)), ih (fun d hd => h d (by simp [hd]))]
theorem Ij (l : List Nat) : Ag (l.map Cf) = Ag l := by
 have h1 : Ag (l.map Cf) = (Ag l).map Cf := by
  unfold Ag
  rw [List.takeWhile_map]
  congr 1
  congr 1
  funext c
  exact V5 c
 rw [h1]
 refine Ace (fun c hc => ?_)
 have := Bs.1 (Cg l c hc)
 omega
theorem Id (l : List Nat) : Aj (l.map Cf) = (Aj l).map Cf := by
 unfold Aj
 rw [List.dropWhile_map]
 congr 1
 congr 1
 funext c
 exact V5 c
theorem Pv (l : List Nat) (k : Nat) (hk : 2 ≤ k) : ((l.map Cf).head? = some k) = (l.head? = some k) := by
 cases l with
 | nil => rfl
 | cons c r =>
  simp only [List.map_cons, List.head?_cons, Option.some.injEq]
  exact propext (Ab5 hk)
theorem Ev (l : List Nat) (k : Nat) (hk : 2 ≤ k) : ((l.map Cf).head? == some k) = (l.head? == some k) := by
 rw [Bool.eq_iff_iff, beq_iff_eq, beq_iff_eq]
 exact iff_of_eq (Pv l k hk)
theorem F4 (l : List Nat) : (l.map Cf).tail = l.tail.map Cf := by cases l <;> rfl
theorem J7 (l : List Nat) : Bj (l.map Cf) = (Bj l).map Cf := by
 unfold Bj
 simp only [Pv l 45 (by omega), Pv l 43 (by omega)]
 split
 ·exact F4 l
 ·rfl
theorem V4 (l : List Nat) : Eh (l.map Cf) = Eh l := Ev l 45 (by omega)
theorem V0 (l : List Nat) : Fu (l.map Cf) = Fu l := by
 unfold Fu
 rw [Ev l 101 (by omega), Ev l 69 (by omega), F4, J7, Ij]
theorem Ajw (l : List Nat) : Kz (l.map Cf) = Kz l := by
 unfold Kz
 rw [F4, J7, Ij, V4]
theorem Ajx (l : List Nat) : Ql (l.map Cf) = (Ql l).map Cf := by
 unfold Ql
 rw [F4, J7, Id]
theorem Ame (l : List Nat) : exV (l.map Cf) = exV l := by unfold exV; rw [V0, Ajw]
theorem Ak8 (l : List Nat) : exR (l.map Cf) = (exR l).map Cf := by
 unfold exR
 rw [V0, Ajx]
 split <;> rfl
theorem Uy (l : List Nat) : Ke (l.map Cf) = Ke l := Ev l 46 (by omega)
theorem Ai7 (l : List Nat) : dW (l.map Cf) = dW l := Ij l
theorem Aho (l : List Nat) : dF (l.map Cf) = dF l := by unfold dF; rw [Id, Uy, F4, Ij]
theorem Anw (l : List Nat) : dB (l.map Cf) = dB l := by unfold dB; rw [Ai7, Aho]
theorem Ahc (l : List Nat) : dT (l.map Cf) = (dT l).map Cf := by
 unfold dT
 rw [Id, Uy, F4, Id]
 split <;> rfl
theorem An8 (l : List Nat) : dX (l.map Cf) = dX l := by unfold dX; rw [Ahc, Ame]
theorem An1 (l : List Nat) : dR (l.map Cf) = (dR l).map Cf := by unfold dR; rw [Ahc, Ak8]
theorem Anq (l : List Nat) : dV (l.map Cf) = dV l := by unfold dV; rw [Ai7, Aho, An8]
theorem Amb (l : List Nat) : (l.map Cf = []) = (l = []) := by cases l <;> simp
theorem Ade (l : List Nat) : (l.map Cf).isEmpty = l.isEmpty := by cases l <;> rfl
theorem drop_one (l : List Nat) (k : Nat) : (l.map Cf).drop k = (l.drop k).map Cf := by rw [List.map_drop]
theorem Ak0 (l : List Nat) : hxA (l.map Cf) = hxA l := by
 unfold hxA
 rw [Ev l 48 (by omega), F4, Ev l.tail 120 (by omega), Ev l.tail 88 (by omega)]
theorem Al4 (l : List Nat) : (l.map Cf).all Pl = l.all Pl := by
 rw [List.all_map]
 congr 1
 funext c
 show decide (dgt (Cf c) < 16) = _
 rw [Abr]
 rfl
theorem Lv (r : Nat) : ∀ l : List Nat, num r (l.map Cf) = num r l
 | [] => rfl
 | c :: l => by rw [List.map_cons, E6, E6, Abr, Lv r l, List.length_map]
theorem Ama (l : List Nat) : hxB (l.map Cf) = hxB l := by
 unfold hxB
 rw [Ak0, drop_one, Ade, Al4]
theorem Agq (r : Nat) (l : List Nat) : Fs r (l.map Cf) = Fs r l := by unfold Fs; rw [Lv]
theorem Am8 {l m : List Nat} (hm : ∀ c ∈ m, 2 ≤ c) : (l.map Cf = m) = (l = m) := by
 refine propext ⟨fun h => ?_, fun h => ?_⟩
 ·induction l generalizing m with
  | nil => exact h
  | cons c r ih =>
   cases m with
   | nil => simp at h
   | cons d s =>
    rw [List.map_cons, List.cons.injEq] at h
    rw [(Ab5 (hm d (by simp))).1 h.1, ih (fun x hx => hm x (by simp [hx])) h.2]
 ·rw [h]
  exact Ace (fun c hc => by have := hm c hc; omega)
theorem Aki : ∀ c ∈ infL, 2 ≤ c := by decide
theorem Vy (l : List Nat) : H8 (l.map Cf) = H8 l := by
 unfold H8
 simp only [Amb, Ama, drop_one, Agq, J7, Am8 Aki, V4, Anw, An1, Anq]
def nrw (z : Nat) (us : List Nat) : List Nat := us.map fun u => if 127 < u then z else u
theorem Alu (us : List Nat) : (nrw 1 us).map Cf = (nrw 0 us).map Cf := by
 unfold nrw
 rw [List.map_map, List.map_map]
 refine List.map_congr_left (fun u _ => ?_)
 show Cf (if 127 < u then 1 else u) = Cf (if 127 < u then 0 else u)
 split <;> rfl
theorem Ah9 {z : Nat} (hz : z < 128) (us : List Nat) : ∀ c ∈ nrw z us, c < 128 := by
 intro c hc
 unfold nrw at hc
 obtain ⟨u, _, rfl⟩ := List.mem_map.1 hc
 split <;> omega
theorem Am5 (us : List Nat) : H8 (nrw 1 us) = H8 (nrw 0 us) := by rw [← Vy, Alu, Vy]
end
section
theorem J9 (s : ByteArray) : ∀ c ∈ bl s, c < 256 := by
 intro c hc
 unfold bl at hc
 obtain ⟨b, _, rfl⟩ := List.mem_map.1 hc
 exact b.toNat_lt
theorem Aod (X : List UInt8) : bl ⟨X.toArray⟩ = X.map UInt8.toNat := by unfold bl; simp
theorem Hk {X : List UInt8} {L : List Nat} (h : X.map UInt8.toNat = L) : (⟨X.toArray⟩ : ByteArray) = Ab L := by
 refine Tm ?_
 rw [Aod, h, Ak]
 intro u hu
 rw [← h] at hu
 obtain ⟨b, _, rfl⟩ := List.mem_map.1 hu
 exact b.toNat_lt
theorem U8 (s : ByteArray) : Ab (bl s) = s := Tm (Ak (J9 s))
theorem Ih (s : ByteArray) : s.data.toList.map UInt8.toNat = bl s := rfl
theorem Ah (l : List Nat) : (Ab l).size = l.length := by
 unfold Ab
 show (Array.size _) = _
 simp
theorem By (s : ByteArray) : (bl s).length = s.size := Amv s
theorem Ae8 : Ab [] = ByteArray.empty := rfl
theorem Kw {p : UInt8 → Bool} {q : Nat → Bool} (h : ∀ b : UInt8, p b = q b.toNat) : ∀ l : List UInt8, (l.dropWhile p).map UInt8.toNat = (l.map UInt8.toNat).dropWhile q := by
 intro l
 rw [List.dropWhile_map]
 congr 1
 congr 1
 funext b
 exact h b
theorem Ajy (s : ByteArray) (k : UInt8) : Lib.hasPrefix s.data.toList [k] = ((bl s).head? == some k.toNat) := by
 unfold Lib.hasPrefix bl
 cases s.data.toList with
 | nil => rfl
 | cons c r =>
  show (k == c && true) = (some c.toNat == some k.toNat)
  rw [Bool.eq_iff_iff]
  simp only [Bool.and_true, beq_iff_eq, Option.some.injEq]
  exact ⟨fun e => by rw [e], fun e => (UInt8.toNat_inj.1 e).symm⟩
theorem Af0 (s : ByteArray) (k : UInt8) : (⟨(Lib.trimPrefix s.data.toList [k]).toArray⟩ : ByteArray) = Ab (if (bl s).head? = some k.toNat then (bl s).tail else bl s) := by
 refine Hk ?_
 unfold Lib.trimPrefix
 rw [Ajy]
 by_cases h : (bl s).head? = some k.toNat
 ·rw [if_pos h, beq_iff_eq.2 h, if_pos rfl, List.map_drop, Ih]
  exact List.drop_one
 ·rw [if_neg h, beq_eq_false_iff_ne.2 h, if_neg (by simp), Ih]
theorem Aa7 : ∀ (p l : List UInt8), p.isPrefixOf l = (p.map UInt8.toNat).isPrefixOf (l.map UInt8.toNat)
 | [], l => by cases l <;> rfl
 | c :: p, [] => rfl
 | c :: p, d :: l => by
  show (c == d && p.isPrefixOf l) = (c.toNat == d.toNat && (p.map UInt8.toNat).isPrefixOf (l.map UInt8.toNat))
  rw [Aa7 p l]
  congr 1
  rw [Bool.eq_iff_iff, beq_iff_eq, beq_iff_eq]
  exact ⟨fun e => by rw [e], fun e => UInt8.toNat_inj.1 e⟩
theorem Ah4 (s p : ByteArray) : Lib.hasPrefix s.data.toList p.data.toList = (bl p).isPrefixOf (bl s) := Aa7 _ _
theorem Ani (s p : ByteArray) : (⟨(Lib.trimPrefix s.data.toList p.data.toList).toArray⟩ : ByteArray) = Ab (if (bl p).isPrefixOf (bl s) = true then (bl s).drop p.size else bl s) := by
 refine Hk ?_
 unfold Lib.trimPrefix
 rw [Ah4]
 by_cases h : (bl p).isPrefixOf (bl s) = true
 ·rw [if_pos h, if_pos h, List.map_drop, Ih, ← Lib.size_eq]
 ·rw [if_neg h, if_neg h, Ih]
def P8 (r : Nat) : ByteArray := (⟨#[48, 49, 50, 51, 52, 53, 54, 55, 56, 57, 97, 98, 99, 100, 101, 102, 103, 104, 105, 106, 107, 108, 109, 110, 111, 112, 113, 114, 115, 116, 117, 118, 119, 120, 121, 122]⟩ : ByteArray).extract 0 r
def ldq (r : Nat) (c : Nat) : Bool := decide (dgt c < r) && !(decide (65 ≤ c) && decide (c ≤ 90))
theorem Alf : ∀ (r : Fin 37) (b : Fin 256), (P8 r.val).data.toList.contains (UInt8.ofNat b.val) = ldq r.val b.val := by decide +kernel
theorem Tj {r : Nat} (hr : r ≤ 36) (b : UInt8) : (P8 r).data.toList.contains b = ldq r b.toNat := by
 have := Alf ⟨r, by omega⟩ ⟨b.toNat, b.toNat_lt⟩
 simpa using this
theorem Acs : ∀ (r : Fin 37) (j : Fin 37), ∀ b, (P8 r.val).data.toList[j.val]? = some b → b.toNat < 128 := by decide +kernel
theorem Ack : ∀ r : Fin 37, (P8 r.val).data.toList.length = r.val := by decide +kernel
theorem Ac6 {r : Nat} (hr : r ≤ 36) : (P8 r).size = r := by rw [Lib.size_eq]; exact Ack ⟨r, by omega⟩
theorem Akq {r : Nat} (hr : r ≤ 36) : ∀ (j : Nat) (b : UInt8), (P8 r).data.toList[j]? = some b → b.toNat < 128 := by
 intro j b hb
 rcases Nat.lt_or_ge j 37 with h | h
 ·exact Acs ⟨r, by omega⟩ ⟨j, h⟩ b hb
 ·exfalso
  rw [List.getElem?_eq_none (by rw [Ack ⟨r, by omega⟩]; show r ≤ j; omega)] at hb
  cases hb
theorem Ak6 (c : Nat) : ldq 10 c = Bw c := by
 unfold ldq
 rw [Bool.eq_iff_iff, Bool.and_eq_true, decide_eq_true_eq, Aao]
 constructor
 ·exact fun h => h.1
 ·intro h
  refine ⟨h, ?_⟩
  have := Bs.1 h
  simp; omega
theorem Am6 {r : Nat} (hr : r ≤ 36) (s : ByteArray) : (⟨(Lib.trimLeftS s.data.toList (P8 r).data.toList).toArray⟩ : ByteArray) = Ab ((bl s).dropWhile (ldq r)) :=
 Hk (Kw (fun b => Tj hr b) _)
theorem L4 (b : UInt8) : [(48 : UInt8)].contains b = (b.toNat == 48) := by
 rw [Lib.contains_one, Bool.eq_iff_iff, beq_iff_eq, beq_iff_eq]
 exact ⟨fun e => by rw [e]; rfl, fun e => UInt8.toNat_inj.1 e⟩
theorem Aot (s : ByteArray) : (⟨(Lib.trimLeftS s.data.toList [48]).toArray⟩ : ByteArray) = Ab (ldz (bl s)) :=
 Hk (Kw (q := (· == 48)) (fun b => L4 b) _)
theorem Aoj (s : ByteArray) : (⟨(Lib.trimRightS s.data.toList [48]).toArray⟩ : ByteArray) = Ab (trz (bl s)) := by
 refine Hk ?_
 unfold Lib.trimRightS trz
 rw [List.map_reverse, Kw (q := (· == 48)) (fun b => L4 b), List.map_reverse]
 rfl
def F5 (c : Nat) : Nat := if 65 ≤ c ∧ c ≤ 90 then c + 32 else c
theorem Aig : ∀ b : Fin 128, (Lib.lowerB (UInt8.ofNat b.val)).toNat = F5 b.val := by decide +kernel
theorem Akf {s : ByteArray} (h : ∀ c ∈ bl s, c < 128) : (⟨(Lib.toLowerA s.data.toList).toArray⟩ : ByteArray) = Ab ((bl s).map F5) := by
 refine Hk ?_
 unfold Lib.toLowerA bl
 rw [List.map_map, List.map_map]
 refine List.map_congr_left (fun b hb => ?_)
 have h1 : b.toNat < 128 := h b.toNat (List.mem_map.2 ⟨b, hb, rfl⟩)
 have := Aig ⟨b.toNat, h1⟩
 simpa using this
theorem An9 {s : ByteArray} (h : ∀ c ∈ bl s, c < 128) : ∀ (j : Nat) (b : UInt8), s.data.toList[j]? = some b → b.toNat < 128 := fun _ b hb => h b.toNat (List.mem_map.2 ⟨b, List.mem_of_getElem? hb, rfl⟩)
theorem Sx (c : Nat) : dgt (F5 c) = dgt c := by
 unfold dgt F5
 split <;> (repeat' split) <;> omega
theorem Abi (r c : Nat) : ldq r (F5 c) = decide (dgt c < r) := by
 unfold ldq
 rw [Sx]
 have : (decide (65 ≤ F5 c) && decide (F5 c ≤ 90)) = false := by unfold F5; split <;> simp <;> omega
 rw [this]
 simp
theorem Aci (r : Nat) : ∀ l : List Nat, num r (l.map F5) = num r l
 | [] => rfl
 | c :: l => by rw [List.map_cons, E6, E6, Sx, Aci r l, List.length_map]
theorem Ag4 (r : Nat) (l : List Nat) : (l.map F5).takeWhile (ldq r) = (l.takeWhile (fun c => decide (dgt c < r))).map F5 := by
 rw [List.takeWhile_map]
 congr 1
 congr 1
 funext c
 exact Abi r c
theorem Ahr (r : Nat) (l : List Nat) : (l.map F5).dropWhile (ldq r) = (l.dropWhile (fun c => decide (dgt c < r))).map F5 := by
 rw [List.dropWhile_map]
 congr 1
 congr 1
 funext c
 exact Abi r c
theorem Fb (s : ByteArray) (k : Nat) : s.extract 0 k = Ab ((bl s).take k) := by
 refine Tm ?_
 rw [Ak (fun u hu => J9 s u (List.mem_of_mem_take hu))]
 unfold bl
 rw [Lib.extract_data, List.drop_zero, Nat.sub_zero, List.map_take]
theorem Ge (s : ByteArray) (k : Nat) : s.extract k s.size = Ab ((bl s).drop k) := by
 refine Tm ?_
 rw [Ak (fun u hu => J9 s u (List.mem_of_mem_drop hu)), Aa4]
theorem Afz (p : Nat → Bool) (l : List Nat) : l.take (l.length - (l.dropWhile p).length) = l.takeWhile p := by
 have h := List.takeWhile_append_dropWhile (p := p) (l := l)
 have hl := congrArg List.length h
 rw [List.length_append] at hl
 have h2 : l.length - (l.dropWhile p).length = (l.takeWhile p).length := by omega
 rw [h2]
 have h3 : (l.takeWhile p ++ l.dropWhile p).take (l.takeWhile p).length = l.takeWhile p := List.take_left
 rw [h] at h3
 exact h3
theorem Bc (a b : List Nat) : Ab a ++ Ab b = Ab (a ++ b) := by
 unfold Ab
 rw [List.map_append]
 apply ByteArray.ext
 simp
end
section
def dL (n : Nat) : List Nat := (Lib.decDigits n).map UInt8.toNat
theorem Vd {n : Nat} (h : n < 256) : (UInt8.ofNat n).toNat = n := by simp; omega
theorem Ei {n : Nat} (h : n < 10) : dL n = [48 + n] := by
 unfold dL
 rw [Lib.decDigits, dif_pos h, List.map_cons, List.map_nil, Vd (by omega)]
theorem Jh {n : Nat} (h : 10 ≤ n) : dL n = dL (n / 10) ++ [48 + n % 10] := by
 unfold dL
 rw [Lib.decDigits, dif_neg (by omega), List.map_append, List.map_cons, List.map_nil, Vd (by omega)]
theorem Amf {n d : Nat} (hn : 0 < n) (hd : d < 10) : dL (n * 10 + d) = dL n ++ [48 + d] := by
 rw [Jh (by omega), show (n * 10 + d) / 10 = n by omega, show (n * 10 + d) % 10 = d by omega]
theorem Zj {P : Nat → Prop} (h1 : ∀ n, n < 10 → P n) (h2 : ∀ n, 10 ≤ n → P (n / 10) → P n) (n : Nat) : P n := by
 induction n using Nat.strongRecOn with
 | _ n ih =>
  by_cases h : n < 10
  ·exact h1 n h
  ·exact h2 n (by omega) (ih _ (by omega))
theorem P6 (n : Nat) : ∀ c ∈ dL n, Bw c = true := by
 refine Zj (P := fun n => ∀ c ∈ dL n, Bw c = true) ?_ ?_ n
 ·intro n h c hc
  rw [Ei h, List.mem_singleton] at hc
  subst hc
  exact Bs.2 (by omega)
 ·intro n h ih c hc
  rw [Jh h, List.mem_append, List.mem_singleton] at hc
  rcases hc with hc | rfl
  ·exact ih c hc
  ·exact Bs.2 (by omega)
theorem Age (n : Nat) : dL n ≠ [] := by
 by_cases h : n < 10
 ·rw [Ei h]; simp
 ·rw [Jh (by omega)]; simp
theorem Zt (n : Nat) : 0 < (dL n).length := List.length_pos_iff.2 (Age n)
theorem Abq {d : Nat} (h : d < 10) : dgt (48 + d) = d := by
 have := In (c := 48 + d) (Bs.2 (by omega))
 omega
theorem Ahp (n : Nat) : num 10 (dL n) = n := by
 refine Zj (P := fun n => num 10 (dL n) = n) ?_ ?_ n
 ·intro n h
  rw [Ei h, Mw, Abq h]
 ·intro n h ih
  rw [Jh h, Ew, ih, Mw, Abq (by omega), List.length_singleton]
  omega
theorem Ak2 {n : Nat} : 0 < n → (dL n).head? ≠ some 48 := by
 refine Zj (P := fun n => 0 < n → (dL n).head? ≠ some 48) ?_ ?_ n
 ·intro n h h0
  rw [Ei h]
  simp
  omega
 ·intro n h ih _
  have := Age (n / 10)
  have ih' := ih (by omega)
  rw [Jh h]
  cases hd : dL (n / 10) with
  | nil => exact absurd hd this
  | cons a b =>
   rw [hd] at ih'
   simpa using ih'
theorem Amp (n : Nat) : n < 10 ^ (dL n).length := by
 have := Hn (g := dL n) (P6 n)
 rwa [Ahp] at this
theorem Aa1 {n : Nat} (h : 0 < n) : 10 ^ ((dL n).length - 1) ≤ n := by
 have := Hj (g := dL n) (P6 n) (Age n) (Ak2 h)
 rwa [Ahp] at this
theorem O6 {a b : Nat} (h : 10 ^ a < 10 ^ b) : a < b := by
 rcases Nat.lt_or_ge a b with h1 | h1
 ·exact h1
 ·have := Nat.pow_le_pow_right (n := 10) (by omega) h1
  omega
theorem An3 {n k : Nat} (h1 : 10 ^ k ≤ n) (h2 : n < 10 ^ (k + 1)) : (dL n).length = k + 1 := by
 have hp := Au k
 have a1 := O6 (Nat.lt_of_le_of_lt h1 (Amp n))
 have a2 := O6 (Nat.lt_of_le_of_lt (Aa1 (n := n) (by omega)) h2)
 omega
theorem Kf {n : Nat} (hn : 0 < n) : ∀ j : Nat, dL (n * 10 ^ j) = dL n ++ List.replicate j 48
 | 0 => by simp
 | j + 1 => by
  have h := Amf (n := n * 10 ^ j) (d := 0) (Nat.mul_pos hn (Au j)) (by omega)
  rw [Nat.pow_succ, ← Nat.mul_assoc, show n * 10 ^ j * 10 = n * 10 ^ j * 10 + 0 by omega, h, Kf hn j, List.replicate_succ', List.append_assoc]
theorem W8 {l : List Nat} {c : Nat} (h : c ≠ 48) : trz (l ++ [c]) = l ++ [c] := by
 unfold trz
 rw [List.reverse_append, List.reverse_singleton, List.singleton_append, List.dropWhile_cons_of_neg (by simpa using h)]
 simp
theorem Tt (l : List Nat) : ∀ j : Nat, trz (l ++ List.replicate j 48) = trz l
 | 0 => by simp
 | j + 1 => by
  rw [List.replicate_succ', ← List.append_assoc]
  have : ∀ m : List Nat, trz (m ++ [48]) = trz m := fun m => by
   unfold trz
   rw [List.reverse_append, List.reverse_singleton, List.singleton_append, List.dropWhile_cons_of_pos (by simp)]
  rw [this, Tt l j]
theorem Td {n : Nat} (h : n % 10 ≠ 0) : trz (dL n) = dL n := by
 by_cases h1 : n < 10
 ·rw [Ei h1, show [48 + n] = [] ++ [48 + n] from rfl, W8 (by omega)]
 ·rw [Jh (by omega), W8 (by omega)]
theorem Am9 {n : Nat} (h : n % 10 ≠ 0) (j : Nat) : trz (dL (n * 10 ^ j)) = dL n := by
 rw [Kf (by omega), Tt, Td h]
end
section
def Ano (K : Nat) : Nat := 2 ^ K
theorem Al7 (K : Nat) : Ano K = 2 ^ K := rfl
theorem Aiv (K : Nat) : 0 < Ano K := Az K
def big : Nat := Ano 1074
theorem Fo : 0 < big := Aiv 1074
theorem Lz : ∃ K : Nat, K = 1074 ∧ big = 2 ^ K := ⟨1074, rfl, Al7 1074⟩
def vU (r : Nat) (s : Int) : Nat := Ac r * 10 ^ s.toNat
def vV (s : Int) : Nat := big * 10 ^ (-s).toNat
theorem Du (s : Int) : 0 < vV s := Nat.mul_pos Fo (Au _)
theorem Np (N : Nat) (e : Int) : Bp N e = rnd (N * vV (-e)) (10 ^ (-e).toNat) := by
 obtain ⟨K, hK, hd⟩ := Fj
 obtain ⟨K', hK', hb⟩ := Lz
 have : K' = K := by omega
 subst this
 unfold vV
 rw [hd, hb, show (- -e).toNat = e.toNat by omega, Nat.mul_assoc, Nat.mul_comm (10 ^ e.toNat)]
theorem Akl {u v a b c d : Nat} (e : c + b = a + d) : v * 10 ^ a ≤ u * 10 ^ b ↔ v * 10 ^ c ≤ u * 10 ^ d := by
 have hb := Au b
 have hd := Au d
 have e1 : v * 10 ^ a * 10 ^ d = v * 10 ^ c * 10 ^ b := by rw [Nat.mul_assoc, Nat.mul_assoc, ← Nat.pow_add, ← Nat.pow_add, e]
 have e2 : u * 10 ^ b * 10 ^ d = u * 10 ^ d * 10 ^ b := Nat.mul_right_comm _ _ _
 rw [← Nat.mul_le_mul_right_iff hd, e1, e2, Nat.mul_le_mul_right_iff hb]
theorem Un {r j : Nat} {m s : Int} (h : m + s = j) : Fk m (Ac r) big ↔ 10 ^ j * vV s ≤ vU r s := by
 unfold Fk vU vV
 rw [Nat.mul_left_comm, ← Nat.pow_add]
 exact Akl (by omega)
theorem Wx (r i : Nat) (s : Int) : vU r (s - i) * (vV s * 10 ^ i) = vU r s * vV (s - i) := by
 unfold vU vV
 have h1 : Ac r * 10 ^ (s - i).toNat * (big * 10 ^ (-s).toNat * 10 ^ i) = Ac r * big * (10 ^ (s - i).toNat * 10 ^ (-s).toNat * 10 ^ i) := by
  generalize 10 ^ (s - i).toNat = a
  generalize 10 ^ (-s).toNat = b
  generalize 10 ^ i = c
  grind
 have h2 : Ac r * 10 ^ s.toNat * (big * 10 ^ (-(s - i)).toNat) = Ac r * big * (10 ^ s.toNat * 10 ^ (-(s - i)).toNat) := by
  generalize 10 ^ s.toNat = a
  generalize 10 ^ (-(s - i)).toNat = b
  grind
 rw [h1, h2, ← Nat.pow_add, ← Nat.pow_add, ← Nat.pow_add]
 exact congrArg (fun k => Ac r * big * 10 ^ k) (by omega)
theorem Je (r i : Nat) (s : Int) : vU r (s - i) / vV (s - i) = vU r s / vV s / 10 ^ i := by
 rw [(Er (Du _) (Nat.mul_pos (Du s) (Au i)) (Wx r i s)).1, Nat.div_div_eq_div_mul]
theorem Y1 (r i half : Nat) (s : Int) (hi : 10 ^ i = 2 * half) :
  (2 * (vU r (s - i) % vV (s - i)) < vV (s - i) ↔ vU r s / vV s % 10 ^ i < half) ∧ (2 * (vU r (s - i) % vV (s - i)) = vV (s - i) ↔ vU r s / vV s % 10 ^ i = half ∧ vU r s % vV s = 0) := by
 have h := Er (Du _) (Nat.mul_pos (Du s) (Au i)) (Wx r i s)
 have g := Afg (U := vU r s) (half := half) (Du s)
 rw [← hi] at g
 exact ⟨h.2.1.trans g.2.1, h.2.2.trans g.2.2⟩
def cq (r : Nat) (n : Int) (k : Nat) : Nat := vU r (k - n) / vV (k - n)
def Om (r : Nat) (n : Int) (k : Nat) : Bool := decide (2 * (vU r (k - n) % vV (k - n)) < vV (k - n)) || (decide (2 * (vU r (k - n) % vV (k - n)) = vV (k - n)) && decide (cq r n k % 2 = 0))
def Qa (r : Nat) (n : Int) (k : Nat) : Bool := decide (Bp (cq r n k) (n - k) = r)
def J6 (r : Nat) (n : Int) (k : Nat) : Bool := decide (Bp (cq r n k + 1) (n - k) = r)
def cnd (r : Nat) (n : Int) (k : Nat) : Option Nat :=
 if (Qa r n k && (!J6 r n k || Om r n k)) = true then some (cq r n k) else if J6 r n k = true then some (cq r n k + 1) else none
theorem O4 {r k : Nat} {n : Int} : cnd r n k = none ↔ Qa r n k = false ∧ J6 r n k = false := by
 unfold cnd
 cases Qa r n k <;> cases J6 r n k <;> cases Om r n k <;> simp
theorem Yo {r k c : Nat} {n : Int} (h : cnd r n k = some c) : (c = cq r n k ∨ c = cq r n k + 1) ∧ Bp c (n - k) = r := by
 unfold cnd at h
 split at h
 ·rename_i hc
  injection h with h
  subst h
  refine ⟨.inl rfl, ?_⟩
  have := (Bool.and_eq_true _ _ ▸ hc).1
  exact of_decide_eq_true this
 ·split at h
  ·rename_i hc
   injection h with h
   subst h
   exact ⟨.inr rfl, of_decide_eq_true hc⟩
  ·cases h
theorem Amn {r k : Nat} {n : Int} (hp : Cj (Ac r) big n) (hk : 1 ≤ k) : 10 ^ (k - 1) ≤ cq r n k := by
 unfold cq
 rw [Nat.le_div_iff_mul_le (Du _)]
 exact (Un (by omega)).1 hp.1
theorem Ams {r k : Nat} {n : Int} (hp : Cj (Ac r) big n) : cq r n k < 10 ^ k := by
 unfold cq
 rw [Nat.div_lt_iff_lt_mul (Du _)]
 exact Nat.lt_of_not_le fun h => hp.2 ((Un (by omega)).2 h)
theorem Ane (r k : Nat) (n : Int) : cq r n k = cq r n (k + 1) / 10 := by
 unfold cq
 have := Je r 1 (((k + 1 : Nat) : Int) - n)
 rw [Nat.pow_one, show ((k + 1 : Nat) : Int) - n - ((1 : Nat) : Int) = (k : Int) - n by omega] at this
 exact this
theorem Ns {r k c : Nat} {n : Int} (hp : Cj (Ac r) big n) (hk : 1 ≤ k) (hmin : ∀ j, 1 ≤ j → j < k → cnd r n j = none) (h : cnd r n k = some c) :
  (c % 10 ≠ 0 ∧ 10 ^ (k - 1) ≤ c ∧ c < 10 ^ k) ∨ (k = 1 ∧ c = 10) := by
 obtain ⟨hc, hd⟩ := Yo h
 have b1 := Amn (k := k) hp hk
 have b2 := Ams (k := k) hp
 by_cases h0 : c % 10 = 0
 ·right
  rcases Nat.lt_or_ge 1 k with h1 | h1
  ·exfalso
   obtain ⟨j, rfl⟩ : ∃ j, k = j + 1 := ⟨k - 1, by omega⟩
   have hn := O4.1 (hmin j (by omega) (by omega))
   have hq := Ane r j n
   obtain ⟨d, rfl⟩ : ∃ d, c = d * 10 ^ 1 := ⟨c / 10, by omega⟩
   rw [D0, show n - ((j + 1 : Nat) : Int) + ((1 : Nat) : Int) = n - (j : Int) by omega] at hd
   rcases hc with hc | hc
   ·have : d = cq r n j := by rw [hq]; omega
    rw [this] at hd
    have := hn.1
    unfold Qa at this
    exact of_decide_eq_false this hd
   ·have : d = cq r n j + 1 := by rw [hq]; omega
    rw [this] at hd
    have := hn.2
    unfold J6 at this
    exact of_decide_eq_false this hd
  ·have hk1 : k = 1 := by omega
   subst hk1
   refine ⟨rfl, ?_⟩
   simp at b1 b2
   omega
 ·left
  refine ⟨h0, by omega, ?_⟩
  rcases hc with rfl | hc
  ·exact b2
  ·rcases Nat.lt_or_ge c (10 ^ k) with h1 | h1
   ·exact h1
   ·exfalso
    have : c = 10 ^ k := by omega
    obtain ⟨j, rfl⟩ : ∃ j, k = j + 1 := ⟨k - 1, by omega⟩
    rw [this, Nat.pow_succ] at h0
    omega
def SQ (r : Nat) (D : List Nat) (N : Int) : Prop := ∃ n k c, Cj (Ac r) big n ∧ 1 ≤ k ∧ k ≤ 17 ∧ (∀ j, 1 ≤ j → j < k → cnd r n j = none) ∧ cnd r n k = some c ∧ D = trz (dL c) ∧ N = (dL c).length + n - k
theorem SQ.one {r : Nat} {D E : List Nat} {N M : Int} (h : SQ r D N) (g : SQ r E M) : D = E ∧ N = M := by
 obtain ⟨n, k, c, h1, h2, _, h3, h4, h5, h6⟩ := h
 obtain ⟨n', k', c', g1, g2, _, g3, g4, g5, g6⟩ := g
 have hn := K9 h1 g1
 subst hn
 have hk : k = k' := by
  rcases Nat.lt_trichotomy k k' with h | h | h
  ·rw [g3 k h2 h] at h4; cases h4
  ·exact h
  ·rw [h3 k' g2 h] at g4; cases g4
 subst hk
 rw [h4] at g4
 injection g4 with g4
 subst g4
 exact ⟨h5.trans g5.symm, h6.trans g6.symm⟩
theorem Ve {r : Nat} {n : Int} (hp : Cj (Ac r) big n) (h0 : 0 < r) (hr : r < 9218868437227405312) : cnd r n 17 ≠ none := by
 intro hn
 obtain ⟨n1, n2⟩ := O4.1 hn
 have hbig : 100000000000000000 * vV (18 - n) ≤ Ac r * 10 ^ ((18 : Int) - n).toNat := (Un (j := 17) (s := 18 - n) (by omega)).1 hp.1
 have hB := Au ((18 : Int) - n).toNat
 have hq := Je r 1 (18 - n)
 rw [Nat.pow_one, show (18 : Int) - n - ((1 : Nat) : Int) = ((17 : Nat) : Int) - n by omega] at hq
 have l1 := Abc (unit := 10) (Du (18 - n)) hB h0 hr
 have l2 := Uv (unit := 10) (Du (18 - n)) hB (by omega) h0 hr
 have hH : vU r (18 - n) = Ac r * 10 ^ ((18 : Int) - n).toNat := rfl
 have sh : ∀ c, Bp c (n - ((17 : Nat) : Int)) = rnd (c * 10 * vV (18 - n)) (10 ^ ((18 : Int) - n).toNat) := by
  intro c
  have e1 := D0 c 1 (n - 18)
  rw [Nat.pow_one, show n - 18 + ((1 : Nat) : Int) = n - ((17 : Nat) : Int) by omega] at e1
  rw [← e1, Np, show -(n - 18) = 18 - n by omega]
 have m1 := of_decide_eq_false n1
 have m2 := of_decide_eq_false n2
 unfold cq at m1 m2
 rw [sh, hq, hH] at m1 m2
 rcases Acy (Du (18 - n)) hB h0 hbig with h | h
 ·exact m1 (l1.2 h)
 ·exact m2 (l2.2 h)
end
section
def pcn (H : Nat) (ex : Bool) (L M unit : Nat) : Option Nat :=
 if L ≤ H - H % unit ∧ (¬ H - H % unit + unit ≤ M ∨ H % unit < unit / 2 ∨ (H % unit = unit / 2 ∧ ex = true ∧ (H - H % unit) / unit % 2 = 0)) then some (H - H % unit)
 else if H - H % unit + unit ≤ M then some (H - H % unit + unit) else none
theorem Akw {r k i M : Nat} {n : Int} (hk : k + i = 18) (hi : 1 ≤ i) (h0 : 0 < r) (hr : r < 9218868437227405312)
  (hM : ∀ c, c ≤ M ↔ Ea (vV (18 - n)) (10 ^ ((18 : Int) - n).toNat) r c) :
  pcn (vU r (18 - n) / vV (18 - n)) (decide (vU r (18 - n) % vV (18 - n) = 0)) (Cz (vV (18 - n)) (10 ^ ((18 : Int) - n).toNat) r) M (10 ^ i) = (cnd r n k).map (· * 10 ^ i) := by
 have hB := Au ((18 : Int) - n).toNat
 have hu := Au i
 obtain ⟨half, hh⟩ : ∃ half, 10 ^ i = 2 * half := ⟨5 * 10 ^ (i - 1), by
  obtain ⟨j, rfl⟩ : ∃ j, i = j + 1 := ⟨i - 1, by omega⟩
  rw [Nat.pow_succ, Nat.add_sub_cancel]
  omega⟩
 have hs : (18 : Int) - n - (i : Int) = (k : Int) - n := by omega
 have hq := Je r i (18 - n)
 have hl := Y1 r i half (18 - n) hh
 rw [hs] at hq hl
 have l1 := Abc (unit := 10 ^ i) (Du (18 - n)) hB h0 hr
 have l2 := Uv (unit := 10 ^ i) (Du (18 - n)) hB hu h0 hr
 rw [show Ac r * 10 ^ ((18 : Int) - n).toNat = vU r (18 - n) from rfl] at l1 l2
 have sh : ∀ c, Bp c (n - (k : Int)) = rnd (c * 10 ^ i * vV (18 - n)) (10 ^ ((18 : Int) - n).toNat) := by
  intro c
  have e1 := D0 c i (n - 18)
  rw [show n - 18 + (i : Int) = n - (k : Int) by omega] at e1
  rw [← e1, Np, show -(n - 18) = 18 - n by omega]
 have hcq : cq r n k = vU r (18 - n) / vV (18 - n) / 10 ^ i := hq
 generalize hH : vU r (18 - n) / vV (18 - n) = H at *
 have hdn : H - H % 10 ^ i = H / 10 ^ i * 10 ^ i := by
  have := Nat.div_add_mod H (10 ^ i)
  rw [Nat.mul_comm] at this
  omega
 have hup : H / 10 ^ i * 10 ^ i + 10 ^ i = (H / 10 ^ i + 1) * 10 ^ i := by rw [Nat.add_mul, Nat.one_mul]
 have ta : Cz (vV (18 - n)) (10 ^ ((18 : Int) - n).toNat) r ≤ H / 10 ^ i * 10 ^ i ↔ Qa r n k = true := by
  rw [← l1]
  unfold Qa
  rw [decide_eq_true_iff, hcq, sh]
 have tb : H / 10 ^ i * 10 ^ i + 10 ^ i ≤ M ↔ J6 r n k = true := by
  rw [hM, hup, ← l2]
  unfold J6
  rw [decide_eq_true_iff, hcq, sh]
 have tc : (H % 10 ^ i < 10 ^ i / 2 ∨ (H % 10 ^ i = 10 ^ i / 2 ∧ decide (vU r (18 - n) % vV (18 - n) = 0) = true ∧ H / 10 ^ i * 10 ^ i / 10 ^ i % 2 = 0)) ↔ Om r n k = true := by
  unfold Om
  rw [Bool.or_eq_true, Bool.and_eq_true, decide_eq_true_iff, decide_eq_true_iff, decide_eq_true_iff, decide_eq_true_iff, hl.1, hl.2, hcq, Nat.mul_div_cancel _ hu, show 10 ^ i / 2 = half by omega]
  constructor
  ·rintro (h | ⟨a, b, c⟩)
   ·exact .inl h
   ·exact .inr ⟨⟨a, b⟩, c⟩
  ·rintro (h | ⟨⟨a, b⟩, c⟩)
   ·exact .inl h
   ·exact .inr ⟨a, b, c⟩
 unfold pcn cnd
 rw [hdn, hcq]
 by_cases h1 : Qa r n k = true <;> by_cases h2 : J6 r n k = true <;> by_cases h3 : Om r n k = true
 all_goals
  simp only [ta, tb, tc, h1, h2, h3]
  simp [Nat.add_mul]
theorem Aen {r s u : Nat} (hr : r < 9218868437227405312) (hrs : r < s) (h : Ac s ≤ u) : rnd u 1 ≠ r := by
 rcases Nat.lt_or_ge s 9218868437227405312 with hs | hs
 ·have h1 := Jm (v := 1) (by omega) hs
  have h2 := Yi (u := Ac s * 1) (v := 1) (u' := u) (v' := 1) (by omega) (by omega) (by omega)
  omega
 ·have hf : Ac 9218868437227405312 ≤ Ac s := by
   rcases Nat.eq_or_lt_of_le hs with e | e
   ·rw [← e]; exact Nat.le_refl _
   ·exact Nat.le_of_lt (Ey.2 e)
  have := Nd (u := u) (v := 1) (by omega) (by rw [Nat.mul_one]; exact Nat.le_trans hf h)
  omega
theorem Ae1 {r s u : Nat} (hr : r < 9218868437227405312) (hrs : s < r) (h : u ≤ Ac s) : rnd u 1 ≠ r := by
 have h1 := Jm (v := 1) (r := s) (by omega) (by omega)
 have h2 := Yi (u := u) (v := 1) (u' := Ac s * 1) (v' := 1) (by omega) (by omega) (by omega)
 omega
theorem Zv {N : Nat} (h : 0 < N) : ∃ c j, N = c * 10 ^ j ∧ c % 10 ≠ 0 := by
 induction N using Nat.strongRecOn with
 | _ N ih =>
  by_cases h0 : N % 10 = 0
  ·obtain ⟨c, j, h1, h2⟩ := ih (N / 10) (by omega) (by omega)
   refine ⟨c, j + 1, ?_, h2⟩
   rw [Nat.pow_succ, ← Nat.mul_assoc, ← h1]
   omega
  ·exact ⟨N, 0, by simp, h0⟩
theorem Ago {r N : Nat} (h0 : 0 < N) (hN : N < 9007199254740992) (hr : r < 9218868437227405312) (hm : Ac r = N * big) : SQ r (trz (dL N)) (dL N).length := by
 obtain ⟨K, hK, hbig⟩ := Lz
 obtain ⟨c, j, e, hc⟩ := Zv h0
 have hc0 : 0 < c := by omega
 have hlen : (dL N).length = (dL c).length + j := by rw [e, Kf hc0, List.length_append, List.length_replicate]
 obtain ⟨k, hk⟩ : ∃ k, (dL c).length = k := ⟨_, rfl⟩
 have hk1 : 1 ≤ k := by rw [← hk]; exact Zt c
 have hl1 := Amp N
 have hl2 := Aa1 h0
 rw [hlen, hk] at hl1 hl2
 have hle : k + j ≤ 16 := by
  have h3 : 10 ^ (k + j - 1) < 10 ^ 16 := Nat.lt_of_le_of_lt hl2 (by omega)
  have := O6 h3
  omega
 have hq : ∀ i : Nat, i ≤ k + j → cq r ((k + j : Nat) : Int) i = N / 10 ^ (k + j - i) ∧ vU r ((i : Int) - ((k + j : Nat) : Int)) % vV ((i : Int) - ((k + j : Nat) : Int)) = big * (N % 10 ^ (k + j - i)) := by
  intro i hi
  unfold cq vU vV
  rw [show ((i : Int) - ((k + j : Nat) : Int)).toNat = 0 by omega, show (-((i : Int) - ((k + j : Nat) : Int))).toNat = k + j - i by omega, Nat.pow_zero, Nat.mul_one, hm, Nat.mul_comm N]
  exact ⟨Nat.mul_div_mul_left _ _ Fo, Nat.mul_mod_mul_left _ _ _⟩
 have sh : ∀ d i : Nat, i ≤ k + j → Bp d (((k + j : Nat) : Int) - (i : Int)) = rnd (d * 10 ^ (k + j - i) * big) 1 := by
  intro d i hi
  rw [Np]
  unfold vV
  rw [show (-(-(((k + j : Nat) : Int) - (i : Int)))).toNat = k + j - i by omega, show (-(((k + j : Nat) : Int) - (i : Int))).toNat = 0 by omega, Nat.pow_zero, Nat.mul_comm big, ← Nat.mul_assoc]
 have hNk : N / 10 ^ j = c := by rw [e]; exact Nat.mul_div_cancel _ (Au j)
 have hNr : N % 10 ^ j = 0 := by rw [e]; exact Nat.mul_mod_left _ _
 have hqk := hq k (by omega)
 rw [show k + j - k = j by omega, hNk, hNr, Nat.mul_zero] at hqk
 have hlow : Qa r ((k + j : Nat) : Int) k = true := by
  unfold Qa
  rw [decide_eq_true_iff, hqk.1, sh c k (by omega), show k + j - k = j by omega, ← e, ← hm, ← Nat.mul_one (Ac r)]
  exact Jm (by omega) hr
 have hnear : Om r ((k + j : Nat) : Int) k = true := by
  unfold Om
  rw [hqk.2, Nat.mul_zero, decide_eq_true (Du _), Bool.true_or]
 refine ⟨((k + j : Nat) : Int), k, c, ⟨?_, ?_⟩, hk1, by omega, ?_, ?_, by rw [e, Am9 hc, Td hc], by omega⟩
 ·unfold Fk
  rw [show (((k + j : Nat) : Int) - 1).toNat = k + j - 1 by omega, show (-(((k + j : Nat) : Int) - 1)).toNat = 0 by omega, Nat.pow_zero, Nat.mul_one, hm, Nat.mul_comm N]
  exact Nat.mul_le_mul_left _ hl2
 ·unfold Fk
  rw [show (((k + j : Nat) : Int)).toNat = k + j by omega, show (-(((k + j : Nat) : Int))).toNat = 0 by omega, Nat.pow_zero, Nat.mul_one, hm, Nat.mul_comm N]
  intro h
  have := Nat.le_of_mul_le_mul_left h Fo
  omega
 ·intro i hi1 hi2
  rw [O4]
  have hqi := (hq i (by omega)).1
  obtain ⟨d, hd⟩ : ∃ d, k + j - i = j + 1 + d := ⟨k - 1 - i, by omega⟩
  rw [hd] at hqi
  have hne : N % 10 ^ (j + 1 + d) ≠ 0 := by
   intro h
   have h1 : 10 ^ (j + 1) ∣ N := Nat.dvd_trans ⟨10 ^ d, by rw [Nat.pow_add]⟩ (Nat.dvd_of_mod_eq_zero h)
   obtain ⟨f, hf⟩ := h1
   rw [e, Nat.pow_succ, Nat.mul_comm c, Nat.mul_assoc] at hf
   have := Nat.eq_of_mul_eq_mul_left (Au j) hf
   omega
  have hdm := Nat.div_add_mod N (10 ^ (j + 1 + d))
  have hml := Nat.mod_lt N (Au (j + 1 + d))
  constructor
  ·unfold Qa
   rw [decide_eq_false_iff_not, hqi, sh _ i (by omega), hd]
   have hW : N / 10 ^ (j + 1 + d) * 10 ^ (j + 1 + d) ≤ N - 1 := by
    rw [Nat.mul_comm]
    omega
   obtain ⟨f1, f2⟩ := Nb (N := N - 1) (by omega) hK
   rw [← hbig] at f1
   refine Ae1 (s := fl (N - 1)) hr (Ey.1 ?_) ?_
   ·rw [f1, hm]
    exact Nat.mul_lt_mul_of_pos_right (by omega) Fo
   ·rw [f1]
    exact Nat.mul_le_mul_right _ hW
  ·unfold J6
   rw [decide_eq_false_iff_not, hqi, sh _ i (by omega), hd]
   have hW : N + 1 ≤ (N / 10 ^ (j + 1 + d) + 1) * 10 ^ (j + 1 + d) := by
    rw [Nat.add_mul, Nat.one_mul, Nat.mul_comm]
    omega
   obtain ⟨s, hs⟩ : ∃ s, Ac s = (N + 1) * big := by
    rcases Nat.lt_or_ge (N + 1) 9007199254740992 with h | h
    ·exact Ty (j := K) (by rw [hbig]) h
    ·have : N + 1 = 9007199254740992 := by omega
     rw [this]
     refine Ty (M := 1) (j := 53 + K) ?_ (by omega)
     rw [hbig, Nat.pow_add, Nat.one_mul]
   refine Aen (s := s) hr (Ey.1 ?_) ?_
   ·rw [hs, hm]
    exact Nat.mul_lt_mul_of_pos_right (by omega) Fo
   ·rw [hs]
    exact Nat.mul_le_mul_right _ hW
 ·unfold cnd
  rw [hlow, hnear, hqk.1]
  simp
end
section
theorem Ub {M k D : Nat} (x u : Nat) (a1 : 4503599627370496 ≤ M) (a2 : M < 9007199254740992) (hx : x = k * 4503599627370496 + M) (h2 : x < 9218868437227405312) (hD : D ≤ k) (hu : u = (k - D) * 4503599627370496 + M) (w : World) :
  Cq 224 #[.float .f64 x, .int .i64 (-(D : Int))] (.float .f64 u) w := by
 have h1 : 4503599627370496 ≤ x := by omega
 obtain ⟨p1, p2, p3⟩ := Ek (x := x) (by omega)
 have C1 := Lh (fun W => Bv x W)
 have C2 := Lh (fun W => Eu x W (by omega))
 rw [show Ck x = false from by unfold Ck; rw [p1]; exact decide_eq_false (by omega)] at C1
 rw [show Fg x = false from by unfold Fg; rw [p1]; exact decide_eq_false (by omega)] at C2
 have C3 := Lh (fun W => Gs x W h1 h2)
 have h3 := Hc x
 rw [p1, decide_eq_false (by omega)] at h3
 have h5 := Cb x w
 have h6 := J5 x (by omega)
 obtain ⟨t, ht2⟩ : ∃ t, M = 4503599627370496 + t := ⟨M - 4503599627370496, by omega⟩
 rw [show x % 4503599627370496 = t by omega] at h6
 have h7 := Ib (k + 1) (by omega)
 obtain ⟨Q, hQ⟩ : ∃ Q, k + 1 - D = Q := ⟨_, rfl⟩
 have h8 := O8 t Q (by omega) (by omega)
 have e8 : t + Q * 4503599627370496 = u := by
  rw [hu, ht2, ← hQ, show k + 1 - D = (k - D) + 1 by omega]; omega
 rw [e8] at h8
 have h9 := Ca u w
 have h10 := one_mul (y := u) (by omega) (by omega)
 have h11 : (binOp BinOp.mul 22 (.float .f64 4607182418800017408) (.float .f64 u)).run Tryz.prog w = .ok (.float .f64 u) w := run_float_arith _ _ _ _ _ _ _ h10
 have k1 : (x : Int) / 4503599627370496 = ((k + 1 : Nat) : Int) := by omega
 have k2 : IntKind.i64.wrap ((k + 1 : Nat) : Int) = ((k + 1 : Nat) : Int) := IntWalk.i64_in _ (by omega)
 have k3 : IntKind.i64.wrap (((k + 1 : Nat) : Int) - 1023) = (k : Int) - 1022 := by rw [IntWalk.i64_in _ (by omega)]; omega
 obtain ⟨X0, hX0⟩ : ∃ X0, -(D : Int) = X0 := ⟨_, rfl⟩
 have k4 : IntKind.i64.wrap X0 = X0 := IntWalk.i64_in _ (by omega)
 have k4' : IntKind.i64.wrap (X0 + 0) = X0 := by rw [Int.add_zero]; exact k4
 have k5 : IntKind.i64.wrap (X0 + ((k : Int) - 1022)) = (Q : Int) - 1023 := by rw [IntWalk.i64_in _ (by omega)]; omega
 have k6 : IntKind.i64.wrap ((Q : Int) - 1023 + 1023) = (Q : Int) := by rw [IntWalk.i64_in _ (by omega)]; omega
 have k7 : IntKind.u64.wrap (Q : Int) = (Q : Int) := by rw [IntKind.wrap_u64]; omega
 have k8 : IntKind.u64.wrap ((Q : Int) * 4503599627370496) = ((Q * 4503599627370496 : Nat) : Int) := by rw [IntKind.wrap_u64]; omega
 have t1 : decide ((Q : Int) - 1023 < -1075) = false := decide_eq_false (by omega)
 have t2 : decide (1023 < (Q : Int) - 1023) = false := decide_eq_false (by omega)
 have t3 : decide ((Q : Int) - 1023 < -1022) = false := decide_eq_false (by omega)
 obtain ⟨q, hq⟩ : ∃ q, k + 1 = q := ⟨_, rfl⟩
 obtain ⟨X1, hX1⟩ : ∃ X1, (k : Int) - 1022 = X1 := ⟨_, rfl⟩
 obtain ⟨X3, hX3⟩ : ∃ X3, (Q : Int) - 1023 = X3 := ⟨_, rfl⟩
 rw [hq] at h7 k1 k2 k3
 rw [hX1] at k3 k5
 rw [hX3] at k5 k6 t1 t2 t3
 rw [hX0]
 rw [← k8] at h8
 clear h1 h2 hx a1 a2 hD hu p1 p2 p3 ht2 hQ e8 h10 k8 hq hX1 hX0 hX3
 go_enter Tryz.func224, Tryz.ntmps224
 go_wp2_with fail
 refine Sm (C2.out _) ?_
 go_wp2_with fail
 refine Sm (C1.out _) ?_
 go_wp2_with fail
 refine Sm (C3.out _) ?_
 go_wp2
 go_ret
 exact ⟨rfl, rfl⟩
theorem Uk {M k D : Nat} (x v r : Nat) (a1 : 4503599627370496 ≤ M) (a2 : M < 9007199254740992) (hx : x = k * 4503599627370496 + M) (h2 : x < 9218868437227405312) (hD : k < D) (hD2 : D ≤ k + 52) (hv : v = (k + 53 - D) * 4503599627370496 + M) (hr : Ieee.double.mul 4368491638549381120 v = some r) (w : World) :
  Cq 224 #[.float .f64 x, .int .i64 (-(D : Int))] (.float .f64 r) w := by
 have h1 : 4503599627370496 ≤ x := by omega
 obtain ⟨p1, p2, p3⟩ := Ek (x := x) (by omega)
 have C1 := Lh (fun W => Bv x W)
 have C2 := Lh (fun W => Eu x W (by omega))
 rw [show Ck x = false from by unfold Ck; rw [p1]; exact decide_eq_false (by omega)] at C1
 rw [show Fg x = false from by unfold Fg; rw [p1]; exact decide_eq_false (by omega)] at C2
 have C3 := Lh (fun W => Gs x W h1 h2)
 have h3 := Hc x
 rw [p1, decide_eq_false (by omega)] at h3
 have h5 := Cb x w
 have h6 := J5 x (by omega)
 obtain ⟨t, ht2⟩ : ∃ t, M = 4503599627370496 + t := ⟨M - 4503599627370496, by omega⟩
 rw [show x % 4503599627370496 = t by omega] at h6
 have h7 := Ib (k + 1) (by omega)
 obtain ⟨Q, hQ⟩ : ∃ Q, k + 54 - D = Q := ⟨_, rfl⟩
 have h8 := O8 t Q (by omega) (by omega)
 have e8 : t + Q * 4503599627370496 = v := by
  rw [hv, ht2, ← hQ, show k + 54 - D = (k + 53 - D) + 1 by omega]; omega
 rw [e8] at h8
 have h9 := Ca v w
 have h11 : (binOp BinOp.mul 22 (.float .f64 4368491638549381120) (.float .f64 v)).run Tryz.prog w = .ok (.float .f64 r) w := run_float_arith _ _ _ _ _ _ _ hr
 have k1 : (x : Int) / 4503599627370496 = ((k + 1 : Nat) : Int) := by omega
 have k2 : IntKind.i64.wrap ((k + 1 : Nat) : Int) = ((k + 1 : Nat) : Int) := IntWalk.i64_in _ (by omega)
 have k3 : IntKind.i64.wrap (((k + 1 : Nat) : Int) - 1023) = (k : Int) - 1022 := by rw [IntWalk.i64_in _ (by omega)]; omega
 obtain ⟨X0, hX0⟩ : ∃ X0, -(D : Int) = X0 := ⟨_, rfl⟩
 have k4 : IntKind.i64.wrap X0 = X0 := IntWalk.i64_in _ (by omega)
 have k4' : IntKind.i64.wrap (X0 + 0) = X0 := by rw [Int.add_zero]; exact k4
 have k5 : IntKind.i64.wrap (X0 + ((k : Int) - 1022)) = (Q : Int) - 1076 := by rw [IntWalk.i64_in _ (by omega)]; omega
 have k9 : IntKind.i64.wrap ((Q : Int) - 1076 + 53) = (Q : Int) - 1023 := by rw [IntWalk.i64_in _ (by omega)]; omega
 have k6 : IntKind.i64.wrap ((Q : Int) - 1023 + 1023) = (Q : Int) := by rw [IntWalk.i64_in _ (by omega)]; omega
 have k7 : IntKind.u64.wrap (Q : Int) = (Q : Int) := by rw [IntKind.wrap_u64]; omega
 have k8 : IntKind.u64.wrap ((Q : Int) * 4503599627370496) = ((Q * 4503599627370496 : Nat) : Int) := by rw [IntKind.wrap_u64]; omega
 have t1 : decide ((Q : Int) - 1076 < -1075) = false := decide_eq_false (by omega)
 have t2 : decide (1023 < (Q : Int) - 1076) = false := decide_eq_false (by omega)
 have t3 : decide ((Q : Int) - 1076 < -1022) = true := decide_eq_true (by omega)
 obtain ⟨q, hq⟩ : ∃ q, k + 1 = q := ⟨_, rfl⟩
 obtain ⟨X1, hX1⟩ : ∃ X1, (k : Int) - 1022 = X1 := ⟨_, rfl⟩
 obtain ⟨X3, hX3⟩ : ∃ X3, (Q : Int) - 1076 = X3 := ⟨_, rfl⟩
 obtain ⟨X4, hX4⟩ : ∃ X4, (Q : Int) - 1023 = X4 := ⟨_, rfl⟩
 rw [hq] at h7 k1 k2 k3
 rw [hX1] at k3 k5
 rw [hX3] at k5 k9 t1 t2 t3
 rw [hX4] at k9 k6
 rw [hX0]
 rw [← k8] at h8
 clear h1 h2 hx a1 a2 hD hD2 hv hr p1 p2 p3 ht2 hQ e8 k8 hq hX1 hX0 hX3 hX4
 go_enter Tryz.func224, Tryz.ntmps224
 go_wp2_with fail
 refine Sm (C2.out _) ?_
 go_wp2_with fail
 refine Sm (C1.out _) ?_
 go_wp2_with fail
 refine Sm (C3.out _) ?_
 go_wp2
 go_ret
 exact ⟨rfl, rfl⟩
theorem Zf {y D u : Nat} (h0 : 4503599627370496 ≤ y) (hy : y < 9218868437227405312) (hu0 : 0 < u) (h : Ac u * 2 ^ D = Ac y) (w : World) :
  Cq 224 #[.float .f64 y, .int .i64 (-(D : Int))] (.float .f64 u) w := by
 obtain ⟨M, k, a1, a2, a3, a4⟩ := Es h0
 have hu1 := F3.2 hu0
 have huy : u ≤ y := by
  rcases Nat.lt_or_ge y u with h1 | h1
  ·have h2 := Bz h1
   have h3 : Ac u * 1 ≤ Ac u * 2 ^ D := Nat.mul_le_mul_left _ (Nat.two_pow_pos D)
   omega
  ·exact h1
 by_cases hDk : D ≤ k
 ·refine Ub y u a1 a2 a3 hy hDk ?_ w
  refine Hr ?_
  rw [Ax _ _ a1 a2]
  refine (D9 (x := M) (a := k - D) (b := D) (y := Ac u) ?_).symm
  rw [show k - D + D = k by omega, ← a4, h]
 ·obtain ⟨j, rfl⟩ : ∃ j, D = k + j := ⟨D - k, by omega⟩
  have hM : Ac u * 2 ^ j = M := by
   refine D9 (x := Ac u) (a := j) (b := k) (y := M) ?_
   rw [Nat.add_comm j k, h, a4]
  have hj : j < 53 := by
   have h3 : 1 * 2 ^ j ≤ Ac u * 2 ^ j := Nat.mul_le_mul_right _ hu1
   have h6 : 2 ^ j < 2 ^ 53 := by have : (2 : Nat) ^ 53 = 9007199254740992 := rfl; omega
   exact (Nat.pow_lt_pow_iff_right (a := 2) (by omega)).1 h6
  refine Uk y ((k + 53 - (k + j)) * 4503599627370496 + M) u a1 a2 a3 hy (by omega) (by omega) rfl ?_ w
  obtain ⟨J, hJ⟩ : ∃ J : Nat, J = 969 := ⟨_, rfl⟩
  obtain ⟨L, hL⟩ : ∃ L : Nat, L = 1074 := ⟨_, rfl⟩
  have e1 := Ax 4503599627370496 J (by omega) (by omega)
  rw [show J * 4503599627370496 + 4503599627370496 = 4368491638549381120 by rw [hJ]] at e1
  refine Ln (K := L) (by omega) (by omega) (by omega) hL ?_
  rw [e1, Ax _ _ a1 a2, ← hM, show (4503599627370496 : Nat) = 2 ^ 52 from rfl, ← Nat.pow_add, Nat.mul_comm, Nat.mul_assoc, Nat.mul_assoc, ← Nat.pow_add, ← Nat.pow_add, show j + (k + 53 - (k + j) + (52 + J)) = L by omega]
theorem P0 {y D u : Nat} (h0 : 4503599627370496 ≤ y) (hy : y < 9218868437227405312) (hu0 : 0 < u) (h : Ac u * 2 ^ D = Ac y) (w : World) :
  Cq 179 #[.float .f64 y, .int .i64 (-(D : Int))] (.float .f64 u) w := by
 have C := Lh (Zf h0 hy hu0 h w)
 obtain ⟨X, hX⟩ : ∃ X, -(D : Int) = X := ⟨_, rfl⟩
 rw [hX] at C ⊢
 clear h0 hy hu0 h hX
 go_enter Tryz.func179, Tryz.ntmps179
 go_wp2_with fail
 refine C.out.mono ?_
 rintro e w' ⟨rfl, rfl⟩
 go_wp2
 go_ret
 exact ⟨rfl, rfl⟩
theorem Agl {N u : Nat} {e : Int} (hN0 : 0 < N) (hN : N < 9007199254740992) (hu : u < 9218868437227405312) (he : -1074 ≤ e) (h : N * 2 ^ (e + 1074).toNat = Ac u) (w : World) :
  Cp 179 #[.float .f64 (fl N), .int .i64 e] w fun r w' => r = .returned (.float .f64 u) ∧ w = w' := by
 obtain ⟨K, hK⟩ : ∃ K : Nat, K = 1074 := ⟨_, rfl⟩
 obtain ⟨f1, f2⟩ := Nb hN hK
 have f3 := (Yw hN0 (Nat.lt_trans hN (by decide))).1
 have hu0 : 0 < u := by
  refine F3.1 ?_
  rw [← h]
  exact Nat.mul_pos hN0 (Nat.two_pow_pos _)
 by_cases hs : 0 ≤ e
 ·obtain ⟨D, rfl⟩ : ∃ D : Nat, e = D := ⟨e.toNat, by omega⟩
  refine Rw (by omega) f2 hu ?_ w
  rw [← h, f1, show ((D : Int) + 1074).toNat = K + D by omega, Nat.pow_add, Nat.mul_assoc]
 ·obtain ⟨D, rfl⟩ : ∃ D : Nat, e = -(D : Int) := ⟨(-e).toNat, by omega⟩
  refine P0 f3 f2 hu0 ?_ w
  rw [← h, f1, Nat.mul_assoc, ← Nat.pow_add, show (-(D : Int) + 1074).toNat + D = K by omega]
theorem Pt (A : Option Addr) (n c : Nat) (ex : Int) (l : List Nat) (w : World) (hn : l.length = n) (hc : n ≤ c) (hm : n ≤ 35184372087808) (h : RW w w.heap.size A l) (hb : btl l = 0) :
  Ct 139 #[.slice A n c, .int .i64 ex] (.float .f64 0) w := by
 have C1 := Lh (Da A n c l w.heap.size w hn hc (by omega) h)
 rw [hb] at C1
 clear hn hc hm h hb
 go_enter Tryz.func139, Tryz.ntmps139
 go_wp2_with fail
 refine C1.out.mono ?_
 rintro e w' ⟨rfl, hbw⟩
 go_wp2
 go_ret
 exact ⟨rfl, hbw⟩
theorem Ai8 (A : Option Addr) (n c u0 : Nat) (ex : Int) (l : List Nat) (w : World) (hn : l.length = n) (hc : n ≤ c) (hm : n ≤ 35184372087808) (h : RW w w.heap.size A l) (hb : btl l ≤ 53) (hb0 : 0 < btl l) (he1 : -1074 ≤ ex) (he2 : ex ≤ 1023) (htop : (btl l : Int) + ex ≤ 1024) (hcut : ¬ (btl l : Int) - 53 + ex < -1074)
  (C3 : RowKit.Hid (∀ W, Cq 179 #[.float .f64 (fl (val l)), .int .i64 ex] (.float .f64 u0) W)) :
  Ct 139 #[.slice A n c, .int .i64 ex] (.float .f64 u0) w := by
 have C1 := Lh (Da A n c l w.heap.size w hn hc (by omega) h)
 have HWS := Lh h.1
 have h0 : nrm l ≠ [] := by intro e; unfold btl at hb0; rw [if_pos e] at hb0; omega
 obtain ⟨b1, b2, b3⟩ := Bk h.1 h0
 have hv53 : val l < 9007199254740992 := Nat.lt_of_lt_of_le b2 (Nat.le_trans (Nat.pow_le_pow_right (by omega) hb) (by decide))
 have C2 := Lh (fun W (hW : Below w.heap.size w W) => (Ce A n c l W.heap.size W hn hc (by omega) ((h.below hW).more hW.size)).mono (fun e w' x => SlPost.of h.1.nrm x))
 have hnl : (nrm l).length ≤ n := by have := Ay l; omega
 have HV : Hid (∀ k, val ((nrm l).drop k) < 9007199254740992) := Lh (fun k => Nat.lt_of_le_of_lt (Lw _ _) (by rw [Ar]; exact hv53))
 have HVN : Hid (val (nrm l) = val l) := Lh (Ar l)
 obtain ⟨u, hu⟩ : ∃ u, fl (val l) = u := ⟨_, rfl⟩
 rw [hu] at C3
 have HU := Lh hu
 obtain ⟨L, hL⟩ : ∃ L, nrm l = L := ⟨_, rfl⟩
 rw [hL] at C2 HV HVN hnl
 obtain ⟨N, hN⟩ : ∃ N, L.length = N := ⟨_, rfl⟩
 rw [hN] at hnl
 have HN := Lh hN
 obtain ⟨m, hm2⟩ : ∃ m, btl l = m := ⟨_, rfl⟩
 rw [hm2] at C1 hb hb0 htop hcut
 have t0 : ((m : Int) == 0) = false := by rw [beq_eq_false_iff_ne]; omega
 have k1 : IntKind.i64.wrap ((m : Int)) = (m : Int) := IntWalk.i64_in _ (by omega)
 obtain ⟨X1, hX1⟩ : ∃ X1, (m : Int) + ex = X1 := ⟨_, rfl⟩
 obtain ⟨X2, hX2⟩ : ∃ X2, (m : Int) - 53 = X2 := ⟨_, rfl⟩
 obtain ⟨X3, hX3⟩ : ∃ X3, -1074 - ex = X3 := ⟨_, rfl⟩
 obtain ⟨X4, hX4⟩ : ∃ X4, X2 + ex = X4 := ⟨_, rfl⟩
 have k2 : IntKind.i64.wrap ((m : Int) + ex) = X1 := by rw [IntWalk.i64_in _ (by omega)]; exact hX1
 have k3 : IntKind.i64.wrap ((m : Int) - 53) = X2 := by rw [IntWalk.i64_in _ (by omega)]; exact hX2
 have k4 : IntKind.i64.wrap (X2 + ex) = X4 := by rw [IntWalk.i64_in _ (by omega)]; exact hX4
 have k5 : IntKind.i64.wrap (-1074 - ex) = X3 := by rw [IntWalk.i64_in _ (by omega)]; exact hX3
 have t1 : decide ((1024 : Int) < X1) = false := decide_eq_false (by omega)
 have t2 : decide (X4 < -1074) = false := decide_eq_false (by omega)
 have t3 : decide (X2 ≤ 0) = true := decide_eq_true (by omega)
 have t4 : X3 ≤ 0 := by omega
 have hnm : N ≤ 35184372087808 := by omega
 clear hn hc hm h hm2 hb hb0 h0 b1 b2 b3 hv53 hu hL hN hnl HWS he1 he2 htop hX1 hX2 hX3 hX4 hcut
 go_enter Tryz.func139, Tryz.ntmps139
 go_wp2_with fail
 refine C1.out.mono ?_
 rintro e w1 ⟨rfl, hbw⟩
 go_wp2_with fail
 refine (C2.out _ hbw).mono ?_
 rintro e w2 ⟨v2, rfl, ⟨A2, c2, rfl, hc2, r2⟩, hb2⟩
 rw [HN.out] at hc2 ⊢
 have HB := Lh (Aa hbw hb2)
 have HR := Lh r2
 have HC2 := Lh hc2
 clear r2 hb2 hbw hc2
 go_wp2
 go_loopw [7, 9] (fun fv iv wr => ∃ (k : Nat), iv = .int .i64 ((k : Int) - 1) ∧ k ≤ N ∧ fv = .float .f64 (fl (val (L.drop k))) ∧ w2 = wr) (fun _ iv _ => (intOf iv + 1).toNat)
 case atStart => exact ⟨N, rfl, Nat.le_refl _, by rw [← HN.out, List.drop_length]; exact congrArg (Value.float .f64) fl_zero.symm, rfl⟩
 case round =>
  obtain ⟨k, rfl, hk, rfl, rfl⟩ := hrel
  by_cases hk0 : k = 0
  ·subst hk0
   have e : fl (val (L.drop 0)) = u := by rw [List.drop_zero, HVN.out]; exact HU.out
   rw [e]
   clear e hk C2 C1
   go_wp2_with fail
   refine Sm (C3.out _) ?_
   go_wp2
   go_ret
   exact ⟨rfl, HB.out⟩
  ·obtain ⟨j, rfl⟩ : ∃ j, k = j + 1 := ⟨k - 1, by omega⟩
   rw [show (((j + 1 : Nat) : Int) - 1) = (j : Int) by omega]
   obtain ⟨ab, ao, rfl, hab, hca⟩ := HR.out.2 (by have := HN.out; omega)
   have hcl := hca j _ (getD_some (by have := HN.out; omega))
   have hyl := HR.out.1.getD j
   have hnx := Iv (l := L) (k := j) (by have := HN.out; omega)
   have hv1 := HV.out j
   have hv2 := HV.out (j + 1)
   obtain ⟨y, hy⟩ : ∃ y, L.getD j 0 = y := ⟨_, rfl⟩
   rw [hy] at hcl hyl hnx
   have HNX := Lh (show fl (val (L.drop j)) = fl (val (L.drop (j + 1)) * 4294967296 + y) by rw [hnx]; congr 1; omega)
   obtain ⟨x, hx⟩ : ∃ x, val (L.drop (j + 1)) = x := ⟨_, rfl⟩
   rw [hx] at hnx hv2 HNX ⊢
   have e32 : fl 4294967296 = 4751297606875873280 := by
    rw [Pq (N := 4294967296) (L := 32) (by decide) (by decide) (by decide)]
   have hmul : (binOp BinOp.mul 22 (.float .f64 (fl x)) (.float .f64 4751297606875873280)).run Tryz.prog w2 = .ok (.float .f64 (fl (x * 4294967296))) w2 := run_float_arith _ _ _ _ _ _ _ (by
    have := Ajj (a := x) (b := 4294967296) (by omega) (by omega) (by omega)
    rw [e32] at this
    exact this)
   have hadd : (binOp BinOp.add 22 (.float .f64 (fl (x * 4294967296))) (.float .f64 (floatOfInt FloatKind.f64 (y : Int)))).run Tryz.prog w2 = .ok (.float .f64 (fl (x * 4294967296 + y))) w2 := run_float_arith _ _ _ _ _ _ _ (Ahd (a := x * 4294967296) (b := y) (by omega) (by omega) (by omega))
   have hjn : (j : Int) < (N : Int) := by omega
   have HJ := Lh hk
   clear hk hk0 hab hca hyl hnx hv1 hv2 hy hx e32 C1 C2 C3
   go_wp2
   go_roundw
   case rel => exact ⟨j, by go_num, by have := HJ.out; omega, by rw [HNX.out], trivial⟩
   case measure => simp [intOf]
theorem Wi (A : Option Addr) (n c u0 : Nat) (ex : Int) (l : List Nat) (w : World) (hn : l.length = n) (hc : n ≤ c) (hm : n ≤ 35184372087808) (h : RW w w.heap.size A l) (hb : btl l ≤ 53) (hb0 : 0 < btl l) (he1 : -1074 ≤ ex) (he2 : ex ≤ 1023) (hcut : (btl l : Int) - 53 + ex < -1074)
  (C3 : RowKit.Hid (∀ W, Cq 179 #[.float .f64 (fl (val l)), .int .i64 ex] (.float .f64 u0) W)) :
  Ct 139 #[.slice A n c, .int .i64 ex] (.float .f64 u0) w := by
 have C1 := Lh (Da A n c l w.heap.size w hn hc (by omega) h)
 have HWS := Lh h.1
 have h0 : nrm l ≠ [] := by intro e; unfold btl at hb0; rw [if_pos e] at hb0; omega
 obtain ⟨b1, b2, b3⟩ := Bk h.1 h0
 have hv53 : val l < 9007199254740992 := Nat.lt_of_lt_of_le b2 (Nat.le_trans (Nat.pow_le_pow_right (by omega) hb) (by decide))
 have C2 := Lh (fun W (hW : Below w.heap.size w W) => (Ce A n c l W.heap.size W hn hc (by omega) ((h.below hW).more hW.size)).mono (fun e w' x => SlPost.of h.1.nrm x))
 have hnl : (nrm l).length ≤ n := by have := Ay l; omega
 have HV : Hid (∀ k, val ((nrm l).drop k) < 9007199254740992) := Lh (fun k => Nat.lt_of_le_of_lt (Lw _ _) (by rw [Ar]; exact hv53))
 have HVN : Hid (val (nrm l) = val l) := Lh (Ar l)
 obtain ⟨u, hu⟩ : ∃ u, fl (val l) = u := ⟨_, rfl⟩
 rw [hu] at C3
 have HU := Lh hu
 obtain ⟨L, hL⟩ : ∃ L, nrm l = L := ⟨_, rfl⟩
 rw [hL] at C2 HV HVN hnl
 obtain ⟨N, hN⟩ : ∃ N, L.length = N := ⟨_, rfl⟩
 rw [hN] at hnl
 have HN := Lh hN
 obtain ⟨m, hm2⟩ : ∃ m, btl l = m := ⟨_, rfl⟩
 rw [hm2] at C1 hb hb0 hcut
 have t0 : ((m : Int) == 0) = false := by rw [beq_eq_false_iff_ne]; omega
 have k1 : IntKind.i64.wrap ((m : Int)) = (m : Int) := IntWalk.i64_in _ (by omega)
 obtain ⟨X1, hX1⟩ : ∃ X1, (m : Int) + ex = X1 := ⟨_, rfl⟩
 obtain ⟨X2, hX2⟩ : ∃ X2, (m : Int) - 53 = X2 := ⟨_, rfl⟩
 obtain ⟨X3, hX3⟩ : ∃ X3, -1074 - ex = X3 := ⟨_, rfl⟩
 obtain ⟨X4, hX4⟩ : ∃ X4, X2 + ex = X4 := ⟨_, rfl⟩
 have k2 : IntKind.i64.wrap ((m : Int) + ex) = X1 := by rw [IntWalk.i64_in _ (by omega)]; exact hX1
 have k3 : IntKind.i64.wrap ((m : Int) - 53) = X2 := by rw [IntWalk.i64_in _ (by omega)]; exact hX2
 have k4 : IntKind.i64.wrap (X2 + ex) = X4 := by rw [IntWalk.i64_in _ (by omega)]; exact hX4
 have k5 : IntKind.i64.wrap (-1074 - ex) = X3 := by rw [IntWalk.i64_in _ (by omega)]; exact hX3
 have t1 : decide ((1024 : Int) < X1) = false := decide_eq_false (by omega)
 have t2 : decide (X4 < -1074) = true := decide_eq_true (by omega)
 have t3 : X2 ≤ 0 := by omega
 have t4 : decide (X3 ≤ 0) = true := decide_eq_true (by omega)
 have hnm : N ≤ 35184372087808 := by omega
 clear hn hc hm h hm2 hb hb0 h0 b1 b2 b3 hv53 hu hL hN hnl HWS he1 he2 hX1 hX2 hX3 hX4 hcut
 go_enter Tryz.func139, Tryz.ntmps139
 go_wp2_with fail
 refine C1.out.mono ?_
 rintro e w1 ⟨rfl, hbw⟩
 go_wp2_with fail
 refine (C2.out _ hbw).mono ?_
 rintro e w2 ⟨v2, rfl, ⟨A2, c2, rfl, hc2, r2⟩, hb2⟩
 rw [HN.out] at hc2 ⊢
 have HB := Lh (Aa hbw hb2)
 have HR := Lh r2
 have HC2 := Lh hc2
 clear r2 hb2 hbw hc2
 go_wp2
 go_loopw [7, 9] (fun fv iv wr => ∃ (k : Nat), iv = .int .i64 ((k : Int) - 1) ∧ k ≤ N ∧ fv = .float .f64 (fl (val (L.drop k))) ∧ w2 = wr) (fun _ iv _ => (intOf iv + 1).toNat)
 case atStart => exact ⟨N, rfl, Nat.le_refl _, by rw [← HN.out, List.drop_length]; exact congrArg (Value.float .f64) fl_zero.symm, rfl⟩
 case round =>
  obtain ⟨k, rfl, hk, rfl, rfl⟩ := hrel
  by_cases hk0 : k = 0
  ·subst hk0
   have e : fl (val (L.drop 0)) = u := by rw [List.drop_zero, HVN.out]; exact HU.out
   rw [e]
   clear e hk C2 C1
   go_wp2_with fail
   refine Sm (C3.out _) ?_
   go_wp2
   go_ret
   exact ⟨rfl, HB.out⟩
  ·obtain ⟨j, rfl⟩ : ∃ j, k = j + 1 := ⟨k - 1, by omega⟩
   rw [show (((j + 1 : Nat) : Int) - 1) = (j : Int) by omega]
   obtain ⟨ab, ao, rfl, hab, hca⟩ := HR.out.2 (by have := HN.out; omega)
   have hcl := hca j _ (getD_some (by have := HN.out; omega))
   have hyl := HR.out.1.getD j
   have hnx := Iv (l := L) (k := j) (by have := HN.out; omega)
   have hv1 := HV.out j
   have hv2 := HV.out (j + 1)
   obtain ⟨y, hy⟩ : ∃ y, L.getD j 0 = y := ⟨_, rfl⟩
   rw [hy] at hcl hyl hnx
   have HNX := Lh (show fl (val (L.drop j)) = fl (val (L.drop (j + 1)) * 4294967296 + y) by rw [hnx]; congr 1; omega)
   obtain ⟨x, hx⟩ : ∃ x, val (L.drop (j + 1)) = x := ⟨_, rfl⟩
   rw [hx] at hnx hv2 HNX ⊢
   have e32 : fl 4294967296 = 4751297606875873280 := by
    rw [Pq (N := 4294967296) (L := 32) (by decide) (by decide) (by decide)]
   have hmul : (binOp BinOp.mul 22 (.float .f64 (fl x)) (.float .f64 4751297606875873280)).run Tryz.prog w2 = .ok (.float .f64 (fl (x * 4294967296))) w2 := run_float_arith _ _ _ _ _ _ _ (by
    have := Ajj (a := x) (b := 4294967296) (by omega) (by omega) (by omega)
    rw [e32] at this
    exact this)
   have hadd : (binOp BinOp.add 22 (.float .f64 (fl (x * 4294967296))) (.float .f64 (floatOfInt FloatKind.f64 (y : Int)))).run Tryz.prog w2 = .ok (.float .f64 (fl (x * 4294967296 + y))) w2 := run_float_arith _ _ _ _ _ _ _ (Ahd (a := x * 4294967296) (b := y) (by omega) (by omega) (by omega))
   have hjn : (j : Int) < (N : Int) := by omega
   have HJ := Lh hk
   clear hk hk0 hab hca hyl hnx hv1 hv2 hy hx e32 C1 C2 C3
   go_wp2
   go_roundw
   case rel => exact ⟨j, by go_num, by have := HJ.out; omega, by rw [HNX.out], trivial⟩
   case measure => simp [intOf]
theorem Aib (A : Option Addr) (n c u : Nat) (ex : Int) (l : List Nat) (w : World) (hn : l.length = n) (hc : n ≤ c) (hm : n ≤ 35184372087808) (h : RW w w.heap.size A l) (hv : val l < 9007199254740992) (he1 : -1074 ≤ ex) (he2 : ex ≤ 1023) (hu : u < 9218868437227405312) (hfu : val l * 2 ^ (ex + 1074).toNat = Ac u) :
  Ct 139 #[.slice A n c, .int .i64 ex] (.float .f64 u) w := by
 by_cases h0 : btl l = 0
 ·have h1 : val l = 0 := by
   rw [← Ar l, (V3 h.1).1 h0]; rfl
  have h2 : u = 0 := by
   rw [h1, Nat.zero_mul] at hfu
   rcases Nat.eq_zero_or_pos u with h3 | h3
   ·exact h3
   ·have := F3.2 h3; omega
  rw [h2]
  exact Pt A n c ex l w hn hc hm h h0
 ·obtain ⟨b1, b2, b3⟩ := Bk h.1 (fun e => h0 ((V3 h.1).2 e))
  have hv0 : 0 < val l := Nat.lt_of_lt_of_le (Nat.two_pow_pos _) b1
  have hb : btl l ≤ 53 := by
   have h6 : 2 ^ (btl l - 1) < 2 ^ 53 := by have : (2 : Nat) ^ 53 = 9007199254740992 := rfl; omega
   have := (Nat.pow_lt_pow_iff_right (a := 2) (by omega)).1 h6
   omega
  have htop : (btl l : Int) + ex ≤ 1024 := by
   obtain ⟨K, hK⟩ : ∃ K : Nat, K = 2098 := ⟨_, rfl⟩
   have h1 := Xj hu K hK
   rw [← hfu] at h1
   have h2 : 2 ^ (btl l - 1) * 2 ^ (ex + 1074).toNat ≤ val l * 2 ^ (ex + 1074).toNat := Nat.mul_le_mul_right _ b1
   rw [← Nat.pow_add] at h2
   have := (Nat.pow_lt_pow_iff_right (a := 2) (by omega)).1 (Nat.lt_of_le_of_lt h2 h1)
   omega
  have C3 := Lh (fun W => Agl hv0 hv hu he1 hfu W)
  by_cases hcut : (btl l : Int) - 53 + ex < -1074
  ·exact Wi A n c u ex l w hn hc hm h hb (by omega) he1 he2 hcut C3
  ·exact Ai8 A n c u ex l w hn hc hm h hb (by omega) he1 he2 htop hcut C3
theorem Vj (A : Option Addr) (n c d u : Nat) (ex : Int) (l : List Nat) (w : World) (hn : l.length = n) (hc : n ≤ c) (hm : n ≤ 35184372087808) (h : RW w w.heap.size A l) (hb : btl l = 54 + d) (hd : d ≤ 32768) (he2 : (d : Int) + ex ≤ 970) (he3 : -1075 ≤ (d : Int) + ex)
  (C5 : RowKit.Hid (∀ W, Cq 179 #[.float .f64 (fl (evn (val l) (d + 1))), .int .i64 (ex + (((54 + d : Nat) : Int) - 53))] (.float .f64 u) W)) :
  Ct 139 #[.slice A n c, .int .i64 ex] (.float .f64 u) w := by
 have C1 := Lh (Da A n c l w.heap.size w hn hc (by omega) h)
 have h0 : nrm l ≠ [] := by intro e; unfold btl at hb; rw [if_pos e] at hb; omega
 obtain ⟨b1, b2, b3⟩ := Bk h.1 h0
 rw [hb] at C1 b1 b2
 have C2 := Lh (fun W (hW : Below w.heap.size w W) => Dx A n c (((54 + d : Nat) : Int) - 53) l W hn hc hm ((h.below hW).more hW.size))
 have C3 := Lh (fun W (hW : Below w.heap.size w W) => Dx A n c (((54 + d : Nat) : Int) - 53 - 1) l W hn hc hm ((h.below hW).more hW.size))
 rw [show (((54 + d : Nat) : Int) - 53).toNat = d + 1 by omega] at C2
 rw [show (((54 + d : Nat) : Int) - 53 - 1).toNat = d by omega] at C3
 obtain ⟨v, hv⟩ : ∃ v, val l = v := ⟨_, rfl⟩
 rw [hv] at C2 C3 C5 b1 b2
 have a1 : 2 ^ (52 + (d + 1)) ≤ v := by rw [show 52 + (d + 1) = 54 + d - 1 by omega]; exact b1
 have a2 : v < 2 ^ (52 + (d + 1) + 1) := by rw [show 52 + (d + 1) + 1 = 54 + d by omega]; exact b2
 obtain ⟨r1, r2⟩ := Ip a1 a2 (by omega)
 rw [show 52 + (d + 1) - 52 = d + 1 by omega] at r1 r2
 have hq1 : 4503599627370496 ≤ v / 2 ^ (d + 1) := by
  rw [Nat.le_div_iff_mul_le (Nat.two_pow_pos _), show 4503599627370496 = 2 ^ 52 from rfl, ← Nat.pow_add]; exact a1
 have hpq : v / 2 ^ (d + 1) = v / 2 ^ d / 2 := by rw [Nat.pow_succ, Nat.div_div_eq_div_mul]
 have hev := Od v d
 obtain ⟨E, hE⟩ : ∃ E, evn v (d + 1) = E := ⟨_, rfl⟩
 rw [hE] at C5 r1 r2 hev
 have hPl : v / 2 ^ d < 18446744073709551616 := by
  have : v / 2 ^ d < 2 ^ 54 := by rw [Nat.div_lt_iff_lt_mul (Nat.two_pow_pos _), ← Nat.pow_add]; exact b2
  exact Nat.lt_trans this (by decide)
 obtain ⟨m, hm2⟩ : ∃ m, 54 + d = m := ⟨_, rfl⟩
 rw [hm2] at C1 C2 C3 C5
 have hm3 : 53 < (m : Int) ∧ (m : Int) + ex ≤ 1024 ∧ (m : Int) ≤ 33000 ∧ -1074 ≤ (m : Int) - 53 + ex := by omega
 obtain ⟨m1, m2, m3, m4⟩ := hm3
 obtain ⟨X1, hX1⟩ : ∃ X1, (m : Int) + ex = X1 := ⟨_, rfl⟩
 obtain ⟨X4, hX4⟩ : ∃ X4, (m : Int) - 53 + ex = X4 := ⟨_, rfl⟩
 obtain ⟨X7, hX7⟩ : ∃ X7, ex + ((m : Int) - 53) = X7 := ⟨_, rfl⟩
 rw [hX7] at C5
 have t0 : ((m : Int) == 0) = false := by rw [beq_eq_false_iff_ne]; omega
 have t1 : decide ((1024 : Int) < X1) = false := decide_eq_false (by omega)
 have k1 : IntKind.i64.wrap ((m : Int)) = (m : Int) := IntWalk.i64_in _ (by omega)
 have k2 : IntKind.i64.wrap ((m : Int) + ex) = X1 := by rw [IntWalk.i64_in _ (by omega)]; exact hX1
 have k3 : IntKind.i64.wrap ((m : Int) - 53) = (m : Int) - 53 := IntWalk.i64_in _ (by omega)
 have k4 : IntKind.i64.wrap ((m : Int) - 53 + ex) = X4 := by rw [IntWalk.i64_in _ (by omega)]; exact hX4
 have k5 : IntKind.i64.wrap ((m : Int) + 1) = (m : Int) + 1 := IntWalk.i64_in _ (by omega)
 have k6 : IntKind.i64.wrap ((m : Int) - 53 - 1) = (m : Int) - 53 - 1 := IntWalk.i64_in _ (by omega)
 have k7 : IntKind.i64.wrap (ex + ((m : Int) - 53)) = X7 := by rw [IntWalk.i64_in _ (by omega)]; exact hX7
 have t2 : decide (X4 < -1074) = false := decide_eq_false (by omega)
 have t3 : decide ((m : Int) - 53 ≤ 0) = false := decide_eq_false (by omega)
 have t4 : decide ((m : Int) + 1 < (m : Int) - 53) = false := decide_eq_false (by omega)
 have HEV := Lh hev
 have HR1 := Lh r1
 have HR2 := Lh r2
 clear hn hc hm h hb hd h0 b1 b2 b3 hv a1 a2 hE hev r1 r2 hm2 he2 he3 hX1 hX4 hX7
 unfold ShrQ at C2 C3
 obtain ⟨mo, hmo⟩ : ∃ mo, decide (v % 2 ^ d ≠ 0) = mo := ⟨_, rfl⟩
 obtain ⟨mq, hmq⟩ : ∃ mq, decide (v % 2 ^ (d + 1) ≠ 0) = mq := ⟨_, rfl⟩
 obtain ⟨Q, hQ⟩ : ∃ Q, v / 2 ^ (d + 1) = Q := ⟨_, rfl⟩
 obtain ⟨P, hP⟩ : ∃ P, v / 2 ^ d = P := ⟨_, rfl⟩
 rw [hmq, hQ] at C2
 rw [hmo, hP] at C3
 rw [hmo, hQ, hP] at HEV
 rw [hQ] at hq1 hpq
 rw [hP] at hpq hPl
 clear hmo hmq hQ hP
 obtain ⟨NQ, hNQ⟩ : ∃ NQ, (wds Q).length = NQ := ⟨_, rfl⟩
 obtain ⟨NP, hNP⟩ : ∃ NP, (wds P).length = NP := ⟨_, rfl⟩
 have hNQ0 : 0 < NQ := by rw [← hNQ]; exact M7 (by omega)
 have hNP0 : 0 < NP := by rw [← hNP]; exact M7 (by omega)
 have hNQ2 : NQ ≤ 2 := by
  have := Ay (two Q)
  rw [Em Q (by omega), hNQ] at this
  exact this
 have g1 := Cw (Bh Q)
 have g2 := Cw (Bh P)
 rw [Ae] at g1 g2
 have o1 := Fv (Q % 4294967296) (by omega)
 have o2 := Fv (P % 4294967296) (by omega)
 rw [show Q % 4294967296 % 2 = Q % 2 by omega] at o1
 rw [show P % 4294967296 % 2 = P % 2 by omega] at o2
 obtain ⟨x, hx⟩ : ∃ x, Q % 4294967296 = x := ⟨_, rfl⟩
 obtain ⟨y, hy⟩ : ∃ y, P % 4294967296 = y := ⟨_, rfl⟩
 rw [hx] at g1 o1
 rw [hy] at g2 o2
 have HNQ := Lh hNQ
 have HNP := Lh hNP
 have HNQ2 := Lh hNQ2
 have HQ1 := Lh hq1
 have HPQ := Lh hpq
 have HPL := Lh hPl
 have n1 : decide ((0 : Int) < (NQ : Int)) = true := decide_eq_true (by omega)
 have n2 : decide ((0 : Int) < (NP : Int)) = true := decide_eq_true (by omega)
 have n3 : (0 : Int) < (NQ : Int) := by omega
 have n4 : (0 : Int) < (NP : Int) := by omega
 clear hx hy hNQ hNP hNQ2 hq1 hpq hPl m1 m2 m3 m4
 go_enter Tryz.func139, Tryz.ntmps139
 go_wp2_with fail
 refine C1.out.mono ?_
 rintro e w1 ⟨rfl, hb1⟩
 go_wp2_with fail
 refine (C2.out _ hb1).mono ?_
 rintro e w2 ⟨A2, N2, c2, rfl, rfl, hc2, q2, hb2⟩
 rw [HNQ.out] at hc2 ⊢
 have hb12 := Aa hb1 hb2
 have HC2 := Lh hc2
 clear hc2
 go_wp2_with fail
 refine (C3.out _ hb12).mono ?_
 rintro e w3 ⟨A3, N3, c3, rfl, rfl, hc3, p3, hb3⟩
 rw [HNP.out] at hc3 ⊢
 have HC3 := Lh hc3
 have hb13 := Aa hb12 hb3
 have q3 := q2.step hb3
 have HB := Lh hb13
 have HQ3 := Lh q3
 obtain ⟨ab, ao, rfl, _, hca⟩ := q3.2 (by rw [HNQ.out]; exact hNQ0)
 obtain ⟨pb, po, rfl, _, hcb⟩ := p3.2 (by rw [HNP.out]; exact hNP0)
 have l1 := hca 0 _ (getD_some (by rw [HNQ.out]; exact hNQ0))
 have l2 := hcb 0 _ (getD_some (by rw [HNP.out]; exact hNP0))
 rw [g1, Nat.add_zero] at l1
 rw [g2, Nat.add_zero] at l2
 clear g1 g2 hca hcb q2 q3 p3 hb1 hb2 hb3 hb12 hb13 hc3 C1 C2 C3 hNQ0 hNP0
 cases hpo : decide (P % 2 = 1)
 ·have hp0 : P % 2 = 0 := by have := of_decide_eq_false hpo; omega
  rw [hp0] at o2
  have HE : Hid (E = Q) := Lh (by rw [HEV.out, hpo]; rfl)
  clear hpo hp0 o1
  obtain rfl : Q = E := HE.out.symm
  go_wp2_with fail
  have K1 := Lh (show Cp 191 #[.slice (some ⟨ab, ao, none⟩) NQ c2, .int .i64 1] w3 fun e w' => e = .returned (.int .u64 (Q / 4294967296 : Nat)) ∧ w3 = w' from by
   have := Ao (some ⟨ab, ao, none⟩) NQ c2 1 (wds (Q)) w3.heap.size w3 HNQ.out (by have := HNQ2.out; omega) HQ3.out
   rw [Fr (Bh _), Ae, Nat.mod_eq_of_lt (by have := HR2.out; omega)] at this
   exact this)
  have K0 := Lh (show Cp 191 #[.slice (some ⟨ab, ao, none⟩) NQ c2, .int .i64 0] w3 fun e w' => e = .returned (.int .u64 ((Q) % 4294967296 : Nat)) ∧ w3 = w' from by
   have := Ao (some ⟨ab, ao, none⟩) NQ c2 0 (wds (Q)) w3.heap.size w3 HNQ.out (by have := HNQ2.out; omega) HQ3.out
   rw [Cw (Bh _), Ae] at this
   exact this)
  have hj := Hi ((Q) / 4294967296) ((Q) % 4294967296) (by have := HR2.out; omega) (by omega)
  rw [show (Q) % 4294967296 + (Q) / 4294967296 * 4294967296 = Q by omega] at hj
  obtain ⟨yy, hyy⟩ : ∃ yy, (Q) / 4294967296 = yy := ⟨_, rfl⟩
  obtain ⟨zz, hzz⟩ : ∃ zz, (Q) % 4294967296 = zz := ⟨_, rfl⟩
  rw [hyy] at K1 hj
  rw [hzz] at K0 hj
  obtain ⟨e9, he9⟩ : ∃ e9, Q = e9 := ⟨_, rfl⟩
  rw [he9] at hj C5
  clear hyy hzz he9
  refine K1.out.mono ?_
  rintro e w' ⟨rfl, rfl⟩
  go_wp2_with fail
  refine K0.out.mono ?_
  rintro e w' ⟨rfl, rfl⟩
  go_wp2_with fail
  refine Sm (C5.out _) ?_
  go_wp2
  go_ret
  exact ⟨rfl, HB.out⟩
 ·have hp1 : P % 2 = 1 := of_decide_eq_true hpo
  rw [hp1] at o2
  cases mo
  ·cases hqo : decide (Q % 2 = 1)
   ·have hq0 : Q % 2 = 0 := by have := of_decide_eq_false hqo; omega
    rw [hq0] at o1
    have HE : Hid (E = Q) := Lh (by rw [HEV.out, hpo, hqo]; rfl)
    clear hpo hp1 hqo hq0
    obtain rfl : Q = E := HE.out.symm
    go_wp2_with fail
    have K1 := Lh (show Cp 191 #[.slice (some ⟨ab, ao, none⟩) NQ c2, .int .i64 1] w3 fun e w' => e = .returned (.int .u64 (Q / 4294967296 : Nat)) ∧ w3 = w' from by
     have := Ao (some ⟨ab, ao, none⟩) NQ c2 1 (wds (Q)) w3.heap.size w3 HNQ.out (by have := HNQ2.out; omega) HQ3.out
     rw [Fr (Bh _), Ae, Nat.mod_eq_of_lt (by have := HR2.out; omega)] at this
     exact this)
    have K0 := Lh (show Cp 191 #[.slice (some ⟨ab, ao, none⟩) NQ c2, .int .i64 0] w3 fun e w' => e = .returned (.int .u64 ((Q) % 4294967296 : Nat)) ∧ w3 = w' from by
     have := Ao (some ⟨ab, ao, none⟩) NQ c2 0 (wds (Q)) w3.heap.size w3 HNQ.out (by have := HNQ2.out; omega) HQ3.out
     rw [Cw (Bh _), Ae] at this
     exact this)
    have hj := Hi ((Q) / 4294967296) ((Q) % 4294967296) (by have := HR2.out; omega) (by omega)
    rw [show (Q) % 4294967296 + (Q) / 4294967296 * 4294967296 = Q by omega] at hj
    obtain ⟨yy, hyy⟩ : ∃ yy, (Q) / 4294967296 = yy := ⟨_, rfl⟩
    obtain ⟨zz, hzz⟩ : ∃ zz, (Q) % 4294967296 = zz := ⟨_, rfl⟩
    rw [hyy] at K1 hj
    rw [hzz] at K0 hj
    obtain ⟨e9, he9⟩ : ∃ e9, Q = e9 := ⟨_, rfl⟩
    rw [he9] at hj C5
    clear hyy hzz he9
    refine K1.out.mono ?_
    rintro e w' ⟨rfl, rfl⟩
    go_wp2_with fail
    refine K0.out.mono ?_
    rintro e w' ⟨rfl, rfl⟩
    go_wp2_with fail
    refine Sm (C5.out _) ?_
    go_wp2
    go_ret
    exact ⟨rfl, HB.out⟩
   ·have hq0 : Q % 2 = 1 := of_decide_eq_true hqo
    rw [hq0] at o1
    have HE : Hid (E = Q + 1) := Lh (by rw [HEV.out, hpo, hqo]; rfl)
    clear hpo hp1 hqo hq0
    have C6 := Lh (E9 (some ⟨ab, ao, none⟩) (some ⟨w3.heap.size, 0, none⟩) NQ c2 1 1 (wds Q) [1] (w3.alloc (.cells #[.int .u32 1] 129)) HNQ.out (by have := HNQ2.out; omega) (HQ3.out.step ((Below.refl w3.heap.size w3).alloc (Nat.le_refl _) _)) rfl (by omega) ((Nn w3).more (by simp)))
    rw [Ae, show val [1] = 1 from rfl] at C6
    go_wp2_with fail
    refine C6.out.mono ?_
    rintro e w5 ⟨v5, rfl, ⟨A5, c5, rfl, hc5, r5⟩, b5⟩
    have HB5 := Lh (Aa HB.out (Aa ((Below.refl w3.heap.size w3).alloc (Nat.le_refl _) _) b5))
    obtain ⟨N5, hN5⟩ : ∃ N5, (wds (Q + 1)).length = N5 := ⟨_, rfl⟩
    have hN52 : N5 ≤ 2 := by
     have := Ay (two (Q + 1))
     rw [Em (Q + 1) (by have := HPQ.out; have := HPL.out; omega), hN5] at this
     exact this
    rw [hN5] at hc5 ⊢
    have HN5 := Lh hN5
    have HN52 := Lh hN52
    have HR5 := Lh r5
    clear hc5 r5 b5 hN5 hN52 C6
    go_wp2_with fail
    obtain rfl : E = Q + 1 := HE.out
    have K1 := Lh (show Cp 191 #[.slice A5 N5 c5, .int .i64 1] w5 fun e w' => e = .returned (.int .u64 ((Q + 1) / 4294967296 : Nat)) ∧ w5 = w' from by
     have := Ao A5 N5 c5 1 (wds (Q + 1)) w5.heap.size w5 HN5.out (by have := HN52.out; omega) HR5.out
     rw [Fr (Bh _), Ae, Nat.mod_eq_of_lt (by have := HR2.out; omega)] at this
     exact this)
    have K0 := Lh (show Cp 191 #[.slice A5 N5 c5, .int .i64 0] w5 fun e w' => e = .returned (.int .u64 ((Q + 1) % 4294967296 : Nat)) ∧ w5 = w' from by
     have := Ao A5 N5 c5 0 (wds (Q + 1)) w5.heap.size w5 HN5.out (by have := HN52.out; omega) HR5.out
     rw [Cw (Bh _), Ae] at this
     exact this)
    have hj := Hi ((Q + 1) / 4294967296) ((Q + 1) % 4294967296) (by have := HR2.out; omega) (by omega)
    rw [show (Q + 1) % 4294967296 + (Q + 1) / 4294967296 * 4294967296 = Q + 1 by omega] at hj
    obtain ⟨yy, hyy⟩ : ∃ yy, (Q + 1) / 4294967296 = yy := ⟨_, rfl⟩
    obtain ⟨zz, hzz⟩ : ∃ zz, (Q + 1) % 4294967296 = zz := ⟨_, rfl⟩
    rw [hyy] at K1 hj
    rw [hzz] at K0 hj
    obtain ⟨e9, he9⟩ : ∃ e9, Q + 1 = e9 := ⟨_, rfl⟩
    rw [he9] at hj C5
    clear hyy hzz he9
    refine K1.out.mono ?_
    rintro e w' ⟨rfl, rfl⟩
    go_wp2_with fail
    refine K0.out.mono ?_
    rintro e w' ⟨rfl, rfl⟩
    go_wp2_with fail
    refine Sm (C5.out _) ?_
    go_wp2
    go_ret
    exact ⟨rfl, HB5.out⟩
  ·have HE : Hid (E = Q + 1) := Lh (by rw [HEV.out, hpo]; rfl)
   clear hpo hp1 o1
   have C6 := Lh (E9 (some ⟨ab, ao, none⟩) (some ⟨w3.heap.size, 0, none⟩) NQ c2 1 1 (wds Q) [1] (w3.alloc (.cells #[.int .u32 1] 129)) HNQ.out (by have := HNQ2.out; omega) (HQ3.out.step ((Below.refl w3.heap.size w3).alloc (Nat.le_refl _) _)) rfl (by omega) ((Nn w3).more (by simp)))
   rw [Ae, show val [1] = 1 from rfl] at C6
   go_wp2_with fail
   refine C6.out.mono ?_
   rintro e w5 ⟨v5, rfl, ⟨A5, c5, rfl, hc5, r5⟩, b5⟩
   have HB5 := Lh (Aa HB.out (Aa ((Below.refl w3.heap.size w3).alloc (Nat.le_refl _) _) b5))
   obtain ⟨N5, hN5⟩ : ∃ N5, (wds (Q + 1)).length = N5 := ⟨_, rfl⟩
   have hN52 : N5 ≤ 2 := by
    have := Ay (two (Q + 1))
    rw [Em (Q + 1) (by have := HPQ.out; have := HPL.out; omega), hN5] at this
    exact this
   rw [hN5] at hc5 ⊢
   have HN5 := Lh hN5
   have HN52 := Lh hN52
   have HR5 := Lh r5
   clear hc5 r5 b5 hN5 hN52 C6
   go_wp2_with fail
   obtain rfl : E = Q + 1 := HE.out
   have K1 := Lh (show Cp 191 #[.slice A5 N5 c5, .int .i64 1] w5 fun e w' => e = .returned (.int .u64 ((Q + 1) / 4294967296 : Nat)) ∧ w5 = w' from by
    have := Ao A5 N5 c5 1 (wds (Q + 1)) w5.heap.size w5 HN5.out (by have := HN52.out; omega) HR5.out
    rw [Fr (Bh _), Ae, Nat.mod_eq_of_lt (by have := HR2.out; omega)] at this
    exact this)
   have K0 := Lh (show Cp 191 #[.slice A5 N5 c5, .int .i64 0] w5 fun e w' => e = .returned (.int .u64 ((Q + 1) % 4294967296 : Nat)) ∧ w5 = w' from by
    have := Ao A5 N5 c5 0 (wds (Q + 1)) w5.heap.size w5 HN5.out (by have := HN52.out; omega) HR5.out
    rw [Cw (Bh _), Ae] at this
    exact this)
   have hj := Hi ((Q + 1) / 4294967296) ((Q + 1) % 4294967296) (by have := HR2.out; omega) (by omega)
   rw [show (Q + 1) % 4294967296 + (Q + 1) / 4294967296 * 4294967296 = Q + 1 by omega] at hj
   obtain ⟨yy, hyy⟩ : ∃ yy, (Q + 1) / 4294967296 = yy := ⟨_, rfl⟩
   obtain ⟨zz, hzz⟩ : ∃ zz, (Q + 1) % 4294967296 = zz := ⟨_, rfl⟩
   rw [hyy] at K1 hj
   rw [hzz] at K0 hj
   obtain ⟨e9, he9⟩ : ∃ e9, Q + 1 = e9 := ⟨_, rfl⟩
   rw [he9] at hj C5
   clear hyy hzz he9
   refine K1.out.mono ?_
   rintro e w' ⟨rfl, rfl⟩
   go_wp2_with fail
   refine K0.out.mono ?_
   rintro e w' ⟨rfl, rfl⟩
   go_wp2_with fail
   refine Sm (C5.out _) ?_
   go_wp2
   go_ret
   exact ⟨rfl, HB5.out⟩
theorem Ad1 (A : Option Addr) (n c d mm u : Nat) (ex : Int) (l : List Nat) (w : World) (hn : l.length = n) (hc : n ≤ c) (hm : n ≤ 35184372087808) (h : RW w w.heap.size A l) (hb : btl l = mm) (hd : d ≤ 32768) (hmm : mm ≤ 32768) (hcut : -1074 - ex = ((d + 1 : Nat) : Int)) (hlo : d + 1 < mm) (hhi : mm < 54 + d)
  (C5 : RowKit.Hid (∀ W, Cq 179 #[.float .f64 (fl (evn (val l) (d + 1))), .int .i64 (ex + ((d + 1 : Nat) : Int))] (.float .f64 u) W)) :
  Ct 139 #[.slice A n c, .int .i64 ex] (.float .f64 u) w := by
 have C1 := Lh (Da A n c l w.heap.size w hn hc (by omega) h)
 have h0 : nrm l ≠ [] := by intro e; unfold btl at hb; rw [if_pos e] at hb; omega
 obtain ⟨b1, b2, b3⟩ := Bk h.1 h0
 rw [hb] at C1 b1 b2
 have C2 := Lh (fun W (hW : Below w.heap.size w W) => Dx A n c ((d + 1 : Nat) : Int) l W hn hc hm ((h.below hW).more hW.size))
 have C3 := Lh (fun W (hW : Below w.heap.size w W) => Dx A n c (((d + 1 : Nat) : Int) - 1) l W hn hc hm ((h.below hW).more hW.size))
 rw [show (((d + 1 : Nat) : Int)).toNat = d + 1 by omega] at C2
 rw [show (((d + 1 : Nat) : Int) - 1).toNat = d by omega] at C3
 obtain ⟨v, hv⟩ : ∃ v, val l = v := ⟨_, rfl⟩
 rw [hv] at C2 C3 C5 b1 b2
 have hq1 : 1 ≤ v / 2 ^ (d + 1) := by
  rw [Nat.le_div_iff_mul_le (Nat.two_pow_pos _), Nat.one_mul]
  exact Nat.le_trans (Nat.pow_le_pow_right (by omega) (by omega)) b1
 have hq2 : v / 2 ^ (d + 1) < 2 ^ 53 := by
  rw [Nat.div_lt_iff_lt_mul (Nat.two_pow_pos _), ← Nat.pow_add]
  exact Nat.lt_of_lt_of_le b2 (Nat.pow_le_pow_right (by omega) (by omega))
 have hq3 : (2 : Nat) ^ 53 = 9007199254740992 := rfl
 have hpq : v / 2 ^ (d + 1) = v / 2 ^ d / 2 := by rw [Nat.pow_succ, Nat.div_div_eq_div_mul]
 have hev := Od v d
 obtain ⟨E, hE⟩ : ∃ E, evn v (d + 1) = E := ⟨_, rfl⟩
 rw [hE] at C5 hev
 have r1 : 1 ≤ E := by omega
 have r2 : E ≤ 9007199254740992 := by
  rw [hev]
  have : ∀ b : Bool, b.toNat ≤ 1 := by intro b; cases b <;> decide
  have := this (decide (v / 2 ^ d % 2 = 1) && (decide (v % 2 ^ d ≠ 0) || decide (v / 2 ^ (d + 1) % 2 = 1)))
  omega
 have hPl : v / 2 ^ d < 18446744073709551616 := by
  omega
 obtain ⟨m, hm2⟩ : ∃ m, mm = m := ⟨_, rfl⟩
 rw [hm2] at C1
 obtain ⟨X1, hX1⟩ : ∃ X1, (m : Int) + ex = X1 := ⟨_, rfl⟩
 obtain ⟨X2, hX2⟩ : ∃ X2, (m : Int) - 53 = X2 := ⟨_, rfl⟩
 obtain ⟨X4, hX4⟩ : ∃ X4, X2 + ex = X4 := ⟨_, rfl⟩
 obtain ⟨X3, hX3⟩ : ∃ X3, ((d + 1 : Nat) : Int) = X3 := ⟨_, rfl⟩
 obtain ⟨X6, hX6⟩ : ∃ X6, X3 - 1 = X6 := ⟨_, rfl⟩
 obtain ⟨X7, hX7⟩ : ∃ X7, ex + X3 = X7 := ⟨_, rfl⟩
 rw [hX3] at C2 C3 C5 hcut
 rw [hX6] at C3
 rw [hX7] at C5
 have t0 : ((m : Int) == 0) = false := by rw [beq_eq_false_iff_ne]; omega
 have t1 : decide ((1024 : Int) < X1) = false := decide_eq_false (by omega)
 have k1 : IntKind.i64.wrap ((m : Int)) = (m : Int) := IntWalk.i64_in _ (by omega)
 have k2 : IntKind.i64.wrap ((m : Int) + ex) = X1 := by rw [IntWalk.i64_in _ (by omega)]; exact hX1
 have k3 : IntKind.i64.wrap ((m : Int) - 53) = X2 := by rw [IntWalk.i64_in _ (by omega)]; exact hX2
 have k8 : IntKind.i64.wrap (-1074 - ex) = X3 := by rw [IntWalk.i64_in _ (by omega)]; exact hcut
 have k4 : IntKind.i64.wrap (X2 + ex) = X4 := by rw [IntWalk.i64_in _ (by omega)]; exact hX4
 have k5 : IntKind.i64.wrap ((m : Int) + 1) = (m : Int) + 1 := IntWalk.i64_in _ (by omega)
 have k6 : IntKind.i64.wrap (X3 - 1) = X6 := by rw [IntWalk.i64_in _ (by omega)]; exact hX6
 have k7 : IntKind.i64.wrap (ex + X3) = X7 := by rw [IntWalk.i64_in _ (by omega)]; exact hX7
 have t2 : decide (X4 < -1074) = true := decide_eq_true (by omega)
 have t3 : decide (X3 ≤ 0) = false := decide_eq_false (by omega)
 have t4 : decide ((m : Int) + 1 < X3) = false := decide_eq_false (by omega)
 have HEV := Lh hev
 have HR1 := Lh r1
 have HR2 := Lh r2
 clear hn hc hm h hb hd h0 b1 b2 b3 hv hE hev r1 r2 hm2 hmm hcut hlo hhi hq3 hX1 hX2 hX3 hX4 hX6 hX7
 unfold ShrQ at C2 C3
 obtain ⟨mo, hmo⟩ : ∃ mo, decide (v % 2 ^ d ≠ 0) = mo := ⟨_, rfl⟩
 obtain ⟨mq, hmq⟩ : ∃ mq, decide (v % 2 ^ (d + 1) ≠ 0) = mq := ⟨_, rfl⟩
 obtain ⟨Q, hQ⟩ : ∃ Q, v / 2 ^ (d + 1) = Q := ⟨_, rfl⟩
 obtain ⟨P, hP⟩ : ∃ P, v / 2 ^ d = P := ⟨_, rfl⟩
 rw [hmq, hQ] at C2
 rw [hmo, hP] at C3
 rw [hmo, hQ, hP] at HEV
 rw [hQ] at hq1 hq2 hpq
 have hq3 : (2 : Nat) ^ 53 = 9007199254740992 := rfl
 rw [hP] at hpq hPl
 clear hmo hmq hQ hP
 obtain ⟨NQ, hNQ⟩ : ∃ NQ, (wds Q).length = NQ := ⟨_, rfl⟩
 obtain ⟨NP, hNP⟩ : ∃ NP, (wds P).length = NP := ⟨_, rfl⟩
 have hNQ0 : 0 < NQ := by rw [← hNQ]; exact M7 (by omega)
 have hNP0 : 0 < NP := by rw [← hNP]; exact M7 (by omega)
 have hNQ2 : NQ ≤ 2 := by
  have := Ay (two Q)
  rw [Em Q (by omega), hNQ] at this
  exact this
 have g1 := Cw (Bh Q)
 have g2 := Cw (Bh P)
 rw [Ae] at g1 g2
 have o1 := Fv (Q % 4294967296) (by omega)
 have o2 := Fv (P % 4294967296) (by omega)
 rw [show Q % 4294967296 % 2 = Q % 2 by omega] at o1
 rw [show P % 4294967296 % 2 = P % 2 by omega] at o2
 obtain ⟨x, hx⟩ : ∃ x, Q % 4294967296 = x := ⟨_, rfl⟩
 obtain ⟨y, hy⟩ : ∃ y, P % 4294967296 = y := ⟨_, rfl⟩
 rw [hx] at g1 o1
 rw [hy] at g2 o2
 have HNQ := Lh hNQ
 have HNP := Lh hNP
 have HNQ2 := Lh hNQ2
 have HQ1 := Lh hq1
 have HPQ := Lh hpq
 have HPL := Lh hPl
 have n1 : decide ((0 : Int) < (NQ : Int)) = true := decide_eq_true (by omega)
 have n2 : decide ((0 : Int) < (NP : Int)) = true := decide_eq_true (by omega)
 have n3 : (0 : Int) < (NQ : Int) := by omega
 have n4 : (0 : Int) < (NP : Int) := by omega
 clear hx hy hNQ hNP hNQ2 hq1 hq2 hq3 hpq hPl
 go_enter Tryz.func139, Tryz.ntmps139
 go_wp2_with fail
 refine C1.out.mono ?_
 rintro e w1 ⟨rfl, hb1⟩
 go_wp2_with fail
 refine (C2.out _ hb1).mono ?_
 rintro e w2 ⟨A2, N2, c2, rfl, rfl, hc2, q2, hb2⟩
 rw [HNQ.out] at hc2 ⊢
 have hb12 := Aa hb1 hb2
 have HC2 := Lh hc2
 clear hc2
 go_wp2_with fail
 refine (C3.out _ hb12).mono ?_
 rintro e w3 ⟨A3, N3, c3, rfl, rfl, hc3, p3, hb3⟩
 rw [HNP.out] at hc3 ⊢
 have HC3 := Lh hc3
 have hb13 := Aa hb12 hb3
 have q3 := q2.step hb3
 have HB := Lh hb13
 have HQ3 := Lh q3
 obtain ⟨ab, ao, rfl, _, hca⟩ := q3.2 (by rw [HNQ.out]; exact hNQ0)
 obtain ⟨pb, po, rfl, _, hcb⟩ := p3.2 (by rw [HNP.out]; exact hNP0)
 have l1 := hca 0 _ (getD_some (by rw [HNQ.out]; exact hNQ0))
 have l2 := hcb 0 _ (getD_some (by rw [HNP.out]; exact hNP0))
 rw [g1, Nat.add_zero] at l1
 rw [g2, Nat.add_zero] at l2
 clear g1 g2 hca hcb q2 q3 p3 hb1 hb2 hb3 hb12 hb13 hc3 C1 C2 C3 hNQ0 hNP0
 cases hpo : decide (P % 2 = 1)
 ·have hp0 : P % 2 = 0 := by have := of_decide_eq_false hpo; omega
  rw [hp0] at o2
  have HE : Hid (E = Q) := Lh (by rw [HEV.out, hpo]; rfl)
  clear hpo hp0 o1
  obtain rfl : Q = E := HE.out.symm
  go_wp2_with fail
  have K1 := Lh (show Cp 191 #[.slice (some ⟨ab, ao, none⟩) NQ c2, .int .i64 1] w3 fun e w' => e = .returned (.int .u64 (Q / 4294967296 : Nat)) ∧ w3 = w' from by
   have := Ao (some ⟨ab, ao, none⟩) NQ c2 1 (wds (Q)) w3.heap.size w3 HNQ.out (by have := HNQ2.out; omega) HQ3.out
   rw [Fr (Bh _), Ae, Nat.mod_eq_of_lt (by have := HR2.out; omega)] at this
   exact this)
  have K0 := Lh (show Cp 191 #[.slice (some ⟨ab, ao, none⟩) NQ c2, .int .i64 0] w3 fun e w' => e = .returned (.int .u64 ((Q) % 4294967296 : Nat)) ∧ w3 = w' from by
   have := Ao (some ⟨ab, ao, none⟩) NQ c2 0 (wds (Q)) w3.heap.size w3 HNQ.out (by have := HNQ2.out; omega) HQ3.out
   rw [Cw (Bh _), Ae] at this
   exact this)
  have hj := Hi ((Q) / 4294967296) ((Q) % 4294967296) (by have := HR2.out; omega) (by omega)
  rw [show (Q) % 4294967296 + (Q) / 4294967296 * 4294967296 = Q by omega] at hj
  obtain ⟨yy, hyy⟩ : ∃ yy, (Q) / 4294967296 = yy := ⟨_, rfl⟩
  obtain ⟨zz, hzz⟩ : ∃ zz, (Q) % 4294967296 = zz := ⟨_, rfl⟩
  rw [hyy] at K1 hj
  rw [hzz] at K0 hj
  obtain ⟨e9, he9⟩ : ∃ e9, Q = e9 := ⟨_, rfl⟩
  rw [he9] at hj C5
  clear hyy hzz he9
  refine K1.out.mono ?_
  rintro e w' ⟨rfl, rfl⟩
  go_wp2_with fail
  refine K0.out.mono ?_
  rintro e w' ⟨rfl, rfl⟩
  go_wp2_with fail
  refine Sm (C5.out _) ?_
  go_wp2
  go_ret
  exact ⟨rfl, HB.out⟩
 ·have hp1 : P % 2 = 1 := of_decide_eq_true hpo
  rw [hp1] at o2
  cases mo
  ·cases hqo : decide (Q % 2 = 1)
   ·have hq0 : Q % 2 = 0 := by have := of_decide_eq_false hqo; omega
    rw [hq0] at o1
    have HE : Hid (E = Q) := Lh (by rw [HEV.out, hpo, hqo]; rfl)
    clear hpo hp1 hqo hq0
    obtain rfl : Q = E := HE.out.symm
    go_wp2_with fail
    have K1 := Lh (show Cp 191 #[.slice (some ⟨ab, ao, none⟩) NQ c2, .int .i64 1] w3 fun e w' => e = .returned (.int .u64 (Q / 4294967296 : Nat)) ∧ w3 = w' from by
     have := Ao (some ⟨ab, ao, none⟩) NQ c2 1 (wds (Q)) w3.heap.size w3 HNQ.out (by have := HNQ2.out; omega) HQ3.out
     rw [Fr (Bh _), Ae, Nat.mod_eq_of_lt (by have := HR2.out; omega)] at this
     exact this)
    have K0 := Lh (show Cp 191 #[.slice (some ⟨ab, ao, none⟩) NQ c2, .int .i64 0] w3 fun e w' => e = .returned (.int .u64 ((Q) % 4294967296 : Nat)) ∧ w3 = w' from by
     have := Ao (some ⟨ab, ao, none⟩) NQ c2 0 (wds (Q)) w3.heap.size w3 HNQ.out (by have := HNQ2.out; omega) HQ3.out
     rw [Cw (Bh _), Ae] at this
     exact this)
    have hj := Hi ((Q) / 4294967296) ((Q) % 4294967296) (by have := HR2.out; omega) (by omega)
    rw [show (Q) % 4294967296 + (Q) / 4294967296 * 4294967296 = Q by omega] at hj
    obtain ⟨yy, hyy⟩ : ∃ yy, (Q) / 4294967296 = yy := ⟨_, rfl⟩
    obtain ⟨zz, hzz⟩ : ∃ zz, (Q) % 4294967296 = zz := ⟨_, rfl⟩
    rw [hyy] at K1 hj
    rw [hzz] at K0 hj
    obtain ⟨e9, he9⟩ : ∃ e9, Q = e9 := ⟨_, rfl⟩
    rw [he9] at hj C5
    clear hyy hzz he9
    refine K1.out.mono ?_
    rintro e w' ⟨rfl, rfl⟩
    go_wp2_with fail
    refine K0.out.mono ?_
    rintro e w' ⟨rfl, rfl⟩
    go_wp2_with fail
    refine Sm (C5.out _) ?_
    go_wp2
    go_ret
    exact ⟨rfl, HB.out⟩
   ·have hq0 : Q % 2 = 1 := of_decide_eq_true hqo
    rw [hq0] at o1
    have HE : Hid (E = Q + 1) := Lh (by rw [HEV.out, hpo, hqo]; rfl)
    clear hpo hp1 hqo hq0
    have C6 := Lh (E9 (some ⟨ab, ao, none⟩) (some ⟨w3.heap.size, 0, none⟩) NQ c2 1 1 (wds Q) [1] (w3.alloc (.cells #[.int .u32 1] 129)) HNQ.out (by have := HNQ2.out; omega) (HQ3.out.step ((Below.refl w3.heap.size w3).alloc (Nat.le_refl _) _)) rfl (by omega) ((Nn w3).more (by simp)))
    rw [Ae, show val [1] = 1 from rfl] at C6
    go_wp2_with fail
    refine C6.out.mono ?_
    rintro e w5 ⟨v5, rfl, ⟨A5, c5, rfl, hc5, r5⟩, b5⟩
    have HB5 := Lh (Aa HB.out (Aa ((Below.refl w3.heap.size w3).alloc (Nat.le_refl _) _) b5))
    obtain ⟨N5, hN5⟩ : ∃ N5, (wds (Q + 1)).length = N5 := ⟨_, rfl⟩
    have hN52 : N5 ≤ 2 := by
     have := Ay (two (Q + 1))
     rw [Em (Q + 1) (by have := HPQ.out; have := HPL.out; omega), hN5] at this
     exact this
    rw [hN5] at hc5 ⊢
    have HN5 := Lh hN5
    have HN52 := Lh hN52
    have HR5 := Lh r5
    clear hc5 r5 b5 hN5 hN52 C6
    go_wp2_with fail
    obtain rfl : E = Q + 1 := HE.out
    have K1 := Lh (show Cp 191 #[.slice A5 N5 c5, .int .i64 1] w5 fun e w' => e = .returned (.int .u64 ((Q + 1) / 4294967296 : Nat)) ∧ w5 = w' from by
     have := Ao A5 N5 c5 1 (wds (Q + 1)) w5.heap.size w5 HN5.out (by have := HN52.out; omega) HR5.out
     rw [Fr (Bh _), Ae, Nat.mod_eq_of_lt (by have := HR2.out; omega)] at this
     exact this)
    have K0 := Lh (show Cp 191 #[.slice A5 N5 c5, .int .i64 0] w5 fun e w' => e = .returned (.int .u64 ((Q + 1) % 4294967296 : Nat)) ∧ w5 = w' from by
     have := Ao A5 N5 c5 0 (wds (Q + 1)) w5.heap.size w5 HN5.out (by have := HN52.out; omega) HR5.out
     rw [Cw (Bh _), Ae] at this
     exact this)
    have hj := Hi ((Q + 1) / 4294967296) ((Q + 1) % 4294967296) (by have := HR2.out; omega) (by omega)
    rw [show (Q + 1) % 4294967296 + (Q + 1) / 4294967296 * 4294967296 = Q + 1 by omega] at hj
    obtain ⟨yy, hyy⟩ : ∃ yy, (Q + 1) / 4294967296 = yy := ⟨_, rfl⟩
    obtain ⟨zz, hzz⟩ : ∃ zz, (Q + 1) % 4294967296 = zz := ⟨_, rfl⟩
    rw [hyy] at K1 hj
    rw [hzz] at K0 hj
    obtain ⟨e9, he9⟩ : ∃ e9, Q + 1 = e9 := ⟨_, rfl⟩
    rw [he9] at hj C5
    clear hyy hzz he9
    refine K1.out.mono ?_
    rintro e w' ⟨rfl, rfl⟩
    go_wp2_with fail
    refine K0.out.mono ?_
    rintro e w' ⟨rfl, rfl⟩
    go_wp2_with fail
    refine Sm (C5.out _) ?_
    go_wp2
    go_ret
    exact ⟨rfl, HB5.out⟩
  ·have HE : Hid (E = Q + 1) := Lh (by rw [HEV.out, hpo]; rfl)
   clear hpo hp1 o1
   have C6 := Lh (E9 (some ⟨ab, ao, none⟩) (some ⟨w3.heap.size, 0, none⟩) NQ c2 1 1 (wds Q) [1] (w3.alloc (.cells #[.int .u32 1] 129)) HNQ.out (by have := HNQ2.out; omega) (HQ3.out.step ((Below.refl w3.heap.size w3).alloc (Nat.le_refl _) _)) rfl (by omega) ((Nn w3).more (by simp)))
   rw [Ae, show val [1] = 1 from rfl] at C6
   go_wp2_with fail
   refine C6.out.mono ?_
   rintro e w5 ⟨v5, rfl, ⟨A5, c5, rfl, hc5, r5⟩, b5⟩
   have HB5 := Lh (Aa HB.out (Aa ((Below.refl w3.heap.size w3).alloc (Nat.le_refl _) _) b5))
   obtain ⟨N5, hN5⟩ : ∃ N5, (wds (Q + 1)).length = N5 := ⟨_, rfl⟩
   have hN52 : N5 ≤ 2 := by
    have := Ay (two (Q + 1))
    rw [Em (Q + 1) (by have := HPQ.out; have := HPL.out; omega), hN5] at this
    exact this
   rw [hN5] at hc5 ⊢
   have HN5 := Lh hN5
   have HN52 := Lh hN52
   have HR5 := Lh r5
   clear hc5 r5 b5 hN5 hN52 C6
   go_wp2_with fail
   obtain rfl : E = Q + 1 := HE.out
   have K1 := Lh (show Cp 191 #[.slice A5 N5 c5, .int .i64 1] w5 fun e w' => e = .returned (.int .u64 ((Q + 1) / 4294967296 : Nat)) ∧ w5 = w' from by
    have := Ao A5 N5 c5 1 (wds (Q + 1)) w5.heap.size w5 HN5.out (by have := HN52.out; omega) HR5.out
    rw [Fr (Bh _), Ae, Nat.mod_eq_of_lt (by have := HR2.out; omega)] at this
    exact this)
   have K0 := Lh (show Cp 191 #[.slice A5 N5 c5, .int .i64 0] w5 fun e w' => e = .returned (.int .u64 ((Q + 1) % 4294967296 : Nat)) ∧ w5 = w' from by
    have := Ao A5 N5 c5 0 (wds (Q + 1)) w5.heap.size w5 HN5.out (by have := HN52.out; omega) HR5.out
    rw [Cw (Bh _), Ae] at this
    exact this)
   have hj := Hi ((Q + 1) / 4294967296) ((Q + 1) % 4294967296) (by have := HR2.out; omega) (by omega)
   rw [show (Q + 1) % 4294967296 + (Q + 1) / 4294967296 * 4294967296 = Q + 1 by omega] at hj
   obtain ⟨yy, hyy⟩ : ∃ yy, (Q + 1) / 4294967296 = yy := ⟨_, rfl⟩
   obtain ⟨zz, hzz⟩ : ∃ zz, (Q + 1) % 4294967296 = zz := ⟨_, rfl⟩
   rw [hyy] at K1 hj
   rw [hzz] at K0 hj
   obtain ⟨e9, he9⟩ : ∃ e9, Q + 1 = e9 := ⟨_, rfl⟩
   rw [he9] at hj C5
   clear hyy hzz he9
   refine K1.out.mono ?_
   rintro e w' ⟨rfl, rfl⟩
   go_wp2_with fail
   refine K0.out.mono ?_
   rintro e w' ⟨rfl, rfl⟩
   go_wp2_with fail
   refine Sm (C5.out _) ?_
   go_wp2
   go_ret
   exact ⟨rfl, HB5.out⟩
theorem Aer (A : Option Addr) (n c : Nat) (ex : Int) (l : List Nat) (w : World) (hn : l.length = n) (hc : n ≤ c) (hm : n ≤ 35184372087808) (h : RW w w.heap.size A l) (h0 : 0 < btl l) (hb : btl l ≤ 1048576) (he : ex ≤ 1048576) (hx : 1024 < (btl l : Int) + ex) :
  Ct 139 #[.slice A n c, .int .i64 ex] (.float .f64 9218868437227405312) w := by
 have C1 := Lh (Da A n c l w.heap.size w hn hc (by omega) h)
 have C2 := Lh (fun W => Dr W)
 obtain ⟨m, hm2⟩ : ∃ m, btl l = m := ⟨_, rfl⟩
 rw [hm2] at C1 h0 hb hx
 have t0 : ((m : Int) == 0) = false := by rw [beq_eq_false_iff_ne]; omega
 obtain ⟨X1, hX1⟩ : ∃ X1, (m : Int) + ex = X1 := ⟨_, rfl⟩
 have k2 : IntKind.i64.wrap ((m : Int) + ex) = X1 := by rw [IntWalk.i64_in _ (by omega)]; exact hX1
 have t1 : decide ((1024 : Int) < X1) = true := decide_eq_true (by omega)
 clear hn hc hm h hm2 h0 hb he hx hX1
 go_enter Tryz.func139, Tryz.ntmps139
 go_wp2_with fail
 refine C1.out.mono ?_
 rintro e w' ⟨rfl, hbw⟩
 go_wp2_with fail
 refine Sm (C2.out _) ?_
 go_wp2
 go_ret
 exact ⟨rfl, hbw⟩
theorem Adx (A : Option Addr) (n c : Nat) (ex : Int) (l : List Nat) (w : World) (hn : l.length = n) (hc : n ≤ c) (hm : n ≤ 35184372087808) (h : RW w w.heap.size A l) (h0 : 0 < btl l) (hb : btl l ≤ 1048576) (he : -1048576 ≤ ex) (hx : (btl l : Int) + 1 < -1074 - ex) :
  Ct 139 #[.slice A n c, .int .i64 ex] (.float .f64 0) w := by
 have C1 := Lh (Da A n c l w.heap.size w hn hc (by omega) h)
 obtain ⟨m, hm2⟩ : ∃ m, btl l = m := ⟨_, rfl⟩
 rw [hm2] at C1 h0 hb hx
 have t0 : ((m : Int) == 0) = false := by rw [beq_eq_false_iff_ne]; omega
 obtain ⟨X1, hX1⟩ : ∃ X1, (m : Int) + ex = X1 := ⟨_, rfl⟩
 obtain ⟨X2, hX2⟩ : ∃ X2, (m : Int) - 53 = X2 := ⟨_, rfl⟩
 obtain ⟨X3, hX3⟩ : ∃ X3, -1074 - ex = X3 := ⟨_, rfl⟩
 obtain ⟨X4, hX4⟩ : ∃ X4, X2 + ex = X4 := ⟨_, rfl⟩
 have k2 : IntKind.i64.wrap ((m : Int) + ex) = X1 := by rw [IntWalk.i64_in _ (by omega)]; exact hX1
 have k3 : IntKind.i64.wrap ((m : Int) - 53) = X2 := by rw [IntWalk.i64_in _ (by omega)]; exact hX2
 have k4 : IntKind.i64.wrap (X2 + ex) = X4 := by rw [IntWalk.i64_in _ (by omega)]; exact hX4
 have k5 : IntKind.i64.wrap (-1074 - ex) = X3 := by rw [IntWalk.i64_in _ (by omega)]; exact hX3
 have k6 : IntKind.i64.wrap ((m : Int) + 1) = (m : Int) + 1 := IntWalk.i64_in _ (by omega)
 have t1 : decide ((1024 : Int) < X1) = false := decide_eq_false (by omega)
 have t2 : decide (X4 < -1074) = true := decide_eq_true (by omega)
 have t3 : decide (X3 ≤ 0) = false := decide_eq_false (by omega)
 have t4 : decide ((m : Int) + 1 < X3) = true := decide_eq_true (by omega)
 clear hn hc hm h hm2 h0 hb he hx hX1 hX2 hX3 hX4
 go_enter Tryz.func139, Tryz.ntmps139
 go_wp2_with fail
 refine C1.out.mono ?_
 rintro e w' ⟨rfl, hbw⟩
 go_wp2
 go_ret
 exact ⟨rfl, hbw⟩
/-   One half and perhaps more, or less than a half: no bit of the quotient stands. -/
theorem Aaw (A : Option Addr) (n c d mm u : Nat) (ex : Int) (l : List Nat) (w : World) (hn : l.length = n) (hc : n ≤ c) (hm : n ≤ 35184372087808) (h : RW w w.heap.size A l) (hb : btl l = mm) (hd : d ≤ 32768) (hmm : 0 < mm) (hcut : -1074 - ex = ((d + 1 : Nat) : Int)) (hlo : d = mm) 
  (C5 : RowKit.Hid (∀ W, Cq 179 #[.float .f64 0, .int .i64 (ex + ((d + 1 : Nat) : Int))] (.float .f64 u) W)) :
  Ct 139 #[.slice A n c, .int .i64 ex] (.float .f64 u) w := by
 have C1 := Lh (Da A n c l w.heap.size w hn hc (by omega) h)
 have h0 : nrm l ≠ [] := by intro e; unfold btl at hb; rw [if_pos e] at hb; omega
 obtain ⟨b1, b2, b3⟩ := Bk h.1 h0
 rw [hb] at C1 b1 b2
 have C2 := Lh (fun W (hW : Below w.heap.size w W) => Dx A n c ((d + 1 : Nat) : Int) l W hn hc hm ((h.below hW).more hW.size))
 have C3 := Lh (fun W (hW : Below w.heap.size w W) => Dx A n c (((d + 1 : Nat) : Int) - 1) l W hn hc hm ((h.below hW).more hW.size))
 rw [show (((d + 1 : Nat) : Int)).toNat = d + 1 by omega] at C2
 rw [show (((d + 1 : Nat) : Int) - 1).toNat = d by omega] at C3
 obtain ⟨v, hv⟩ : ∃ v, val l = v := ⟨_, rfl⟩
 rw [hv] at C2 C3 b1 b2
 have z1 : v / 2 ^ (d + 1) = 0 := Nat.div_eq_of_lt (Nat.lt_of_lt_of_le b2 (Nat.pow_le_pow_right (by omega) (by omega)))
 have z2 : v / 2 ^ d = 0 := Nat.div_eq_of_lt (by rw [hlo]; exact b2)
 unfold ShrQ at C2 C3
 rw [z1] at C2
 rw [z2] at C3
 rw [show (wds 0).length = 0 by decide] at C2 C3
 obtain ⟨mo, hmo⟩ : ∃ mo, decide (v % 2 ^ d ≠ 0) = mo := ⟨_, rfl⟩
 obtain ⟨mq, hmq⟩ : ∃ mq, decide (v % 2 ^ (d + 1) ≠ 0) = mq := ⟨_, rfl⟩
 rw [hmq] at C2
 rw [hmo] at C3
 clear hv z1 z2 hmo hmq
 obtain ⟨m, hm2⟩ : ∃ m, mm = m := ⟨_, rfl⟩
 rw [hm2] at C1
 obtain ⟨X1, hX1⟩ : ∃ X1, (m : Int) + ex = X1 := ⟨_, rfl⟩
 obtain ⟨X2, hX2⟩ : ∃ X2, (m : Int) - 53 = X2 := ⟨_, rfl⟩
 obtain ⟨X4, hX4⟩ : ∃ X4, X2 + ex = X4 := ⟨_, rfl⟩
 obtain ⟨X3, hX3⟩ : ∃ X3, ((d + 1 : Nat) : Int) = X3 := ⟨_, rfl⟩
 obtain ⟨X6, hX6⟩ : ∃ X6, X3 - 1 = X6 := ⟨_, rfl⟩
 obtain ⟨X7, hX7⟩ : ∃ X7, ex + X3 = X7 := ⟨_, rfl⟩
 rw [hX3] at C2 C3 C5 hcut
 rw [hX6] at C3
 rw [hX7] at C5
 have t0 : ((m : Int) == 0) = false := by rw [beq_eq_false_iff_ne]; omega
 have t1 : decide ((1024 : Int) < X1) = false := decide_eq_false (by omega)
 have k1 : IntKind.i64.wrap ((m : Int)) = (m : Int) := IntWalk.i64_in _ (by omega)
 have k2 : IntKind.i64.wrap ((m : Int) + ex) = X1 := by rw [IntWalk.i64_in _ (by omega)]; exact hX1
 have k3 : IntKind.i64.wrap ((m : Int) - 53) = X2 := by rw [IntWalk.i64_in _ (by omega)]; exact hX2
 have k8 : IntKind.i64.wrap (-1074 - ex) = X3 := by rw [IntWalk.i64_in _ (by omega)]; exact hcut
 have k4 : IntKind.i64.wrap (X2 + ex) = X4 := by rw [IntWalk.i64_in _ (by omega)]; exact hX4
 have k5 : IntKind.i64.wrap ((m : Int) + 1) = (m : Int) + 1 := IntWalk.i64_in _ (by omega)
 have k6 : IntKind.i64.wrap (X3 - 1) = X6 := by rw [IntWalk.i64_in _ (by omega)]; exact hX6
 have k7 : IntKind.i64.wrap (ex + X3) = X7 := by rw [IntWalk.i64_in _ (by omega)]; exact hX7
 have t2 : decide (X4 < -1074) = true := decide_eq_true (by omega)
 have t3 : decide (X3 ≤ 0) = false := decide_eq_false (by omega)
 have t4 : decide ((m : Int) + 1 < X3) = false := decide_eq_false (by omega)
 clear hn hc hm h hb hd h0 b1 b2 b3 hm2 hmm hcut hlo hX1 hX2 hX3 hX4 hX6 hX7
 go_enter Tryz.func139, Tryz.ntmps139
 go_wp2_with fail
 refine C1.out.mono ?_
 rintro e w1 ⟨rfl, hb1⟩
 go_wp2_with fail
 refine (C2.out _ hb1).mono ?_
 rintro e w2 ⟨A2, N2, c2, rfl, hN2, hc2, q2, hb2⟩
 obtain rfl : N2 = 0 := hN2
 have hb12 := Aa hb1 hb2
 have HC2 := Lh hc2
 clear hc2
 go_wp2_with fail
 refine (C3.out _ hb12).mono ?_
 rintro e w3 ⟨A3, N3, c3, rfl, hN3, hc3, p3, hb3⟩
 have HB := Lh (Aa hb12 hb3)
 have HQ3 := Lh (q2.step hb3)
 have HC3 := Lh hc3
 obtain rfl : N3 = 0 := hN3
 clear hb1 hb2 hb3 hb12 hc3 q2 p3 C1 C2 C3
 have K1 := Lh (show Cp 191 #[.slice A2 0 c2, .int .i64 1] w3 fun e w' => e = .returned (.int .u64 0) ∧ w3 = w' from Ao A2 0 c2 1 (wds 0) w3.heap.size w3 rfl (by omega) HQ3.out)
 have K0 := Lh (show Cp 191 #[.slice A2 0 c2, .int .i64 0] w3 fun e w' => e = .returned (.int .u64 0) ∧ w3 = w' from Ao A2 0 c2 0 (wds 0) w3.heap.size w3 rfl (by omega) HQ3.out)
 go_wp2_with fail
 refine K1.out.mono ?_
 rintro e w' ⟨rfl, rfl⟩
 go_wp2_with fail
 refine K0.out.mono ?_
 rintro e w' ⟨rfl, rfl⟩
 go_wp2_with fail
 refine Sm (C5.out _) ?_
 go_wp2
 go_ret
 exact ⟨rfl, HB.out⟩
theorem Aac (A : Option Addr) (n c d mm u : Nat) (ex : Int) (l : List Nat) (w : World) (hn : l.length = n) (hc : n ≤ c) (hm : n ≤ 35184372087808) (h : RW w w.heap.size A l) (hb : btl l = mm) (hd : d ≤ 32768) (hmm : 0 < mm) (hcut : -1074 - ex = ((d + 1 : Nat) : Int)) (hlo : d + 1 = mm) (hmo0 : decide (val l % 2 ^ d ≠ 0) = false)
  (C5 : RowKit.Hid (∀ W, Cq 179 #[.float .f64 0, .int .i64 (ex + ((d + 1 : Nat) : Int))] (.float .f64 u) W)) :
  Ct 139 #[.slice A n c, .int .i64 ex] (.float .f64 u) w := by
 have C1 := Lh (Da A n c l w.heap.size w hn hc (by omega) h)
 have h0 : nrm l ≠ [] := by intro e; unfold btl at hb; rw [if_pos e] at hb; omega
 obtain ⟨b1, b2, b3⟩ := Bk h.1 h0
 rw [hb] at C1 b1 b2
 have C2 := Lh (fun W (hW : Below w.heap.size w W) => Dx A n c ((d + 1 : Nat) : Int) l W hn hc hm ((h.below hW).more hW.size))
 have C3 := Lh (fun W (hW : Below w.heap.size w W) => Dx A n c (((d + 1 : Nat) : Int) - 1) l W hn hc hm ((h.below hW).more hW.size))
 rw [show (((d + 1 : Nat) : Int)).toNat = d + 1 by omega] at C2
 rw [show (((d + 1 : Nat) : Int) - 1).toNat = d by omega] at C3
 obtain ⟨v, hv⟩ : ∃ v, val l = v := ⟨_, rfl⟩
 rw [hv] at C2 C3 b1 b2 hmo0
 have z1 : v / 2 ^ (d + 1) = 0 := Nat.div_eq_of_lt (by rw [hlo]; exact b2)
 have z2 : v / 2 ^ d = 1 := by
  have e1 : 2 ^ d ≤ v := by rw [show d = mm - 1 by omega]; exact b1
  have e2 : v < 2 * 2 ^ d := by rw [Nat.mul_comm, ← Nat.pow_succ, show d.succ = mm by omega]; exact b2
  have l1 : 1 ≤ v / 2 ^ d := (Nat.le_div_iff_mul_le (Nat.two_pow_pos d)).2 (by omega)
  have l2 : v / 2 ^ d < 2 := (Nat.div_lt_iff_lt_mul (Nat.two_pow_pos d)).2 e2
  omega
 unfold ShrQ at C2 C3
 rw [z1] at C2
 rw [z2] at C3
 rw [show (wds 0).length = 0 by decide] at C2
 rw [show (wds 1).length = 1 by decide] at C3
 obtain ⟨mo, hmo⟩ : ∃ mo, decide (v % 2 ^ d ≠ 0) = mo := ⟨_, rfl⟩
 obtain ⟨mq, hmq⟩ : ∃ mq, decide (v % 2 ^ (d + 1) ≠ 0) = mq := ⟨_, rfl⟩
 rw [hmq] at C2
 rw [hmo] at C3 hmo0
 have o2 := Fv 1 (by omega)
 clear hv z1 z2 hmo hmq
 subst hmo0
 obtain ⟨m, hm2⟩ : ∃ m, mm = m := ⟨_, rfl⟩
 rw [hm2] at C1
 obtain ⟨X1, hX1⟩ : ∃ X1, (m : Int) + ex = X1 := ⟨_, rfl⟩
 obtain ⟨X2, hX2⟩ : ∃ X2, (m : Int) - 53 = X2 := ⟨_, rfl⟩
 obtain ⟨X4, hX4⟩ : ∃ X4, X2 + ex = X4 := ⟨_, rfl⟩
 obtain ⟨X3, hX3⟩ : ∃ X3, ((d + 1 : Nat) : Int) = X3 := ⟨_, rfl⟩
 obtain ⟨X6, hX6⟩ : ∃ X6, X3 - 1 = X6 := ⟨_, rfl⟩
 obtain ⟨X7, hX7⟩ : ∃ X7, ex + X3 = X7 := ⟨_, rfl⟩
 rw [hX3] at C2 C3 C5 hcut
 rw [hX6] at C3
 rw [hX7] at C5
 have t0 : ((m : Int) == 0) = false := by rw [beq_eq_false_iff_ne]; omega
 have t1 : decide ((1024 : Int) < X1) = false := decide_eq_false (by omega)
 have k1 : IntKind.i64.wrap ((m : Int)) = (m : Int) := IntWalk.i64_in _ (by omega)
 have k2 : IntKind.i64.wrap ((m : Int) + ex) = X1 := by rw [IntWalk.i64_in _ (by omega)]; exact hX1
 have k3 : IntKind.i64.wrap ((m : Int) - 53) = X2 := by rw [IntWalk.i64_in _ (by omega)]; exact hX2
 have k8 : IntKind.i64.wrap (-1074 - ex) = X3 := by rw [IntWalk.i64_in _ (by omega)]; exact hcut
 have k4 : IntKind.i64.wrap (X2 + ex) = X4 := by rw [IntWalk.i64_in _ (by omega)]; exact hX4
 have k5 : IntKind.i64.wrap ((m : Int) + 1) = (m : Int) + 1 := IntWalk.i64_in _ (by omega)
 have k6 : IntKind.i64.wrap (X3 - 1) = X6 := by rw [IntWalk.i64_in _ (by omega)]; exact hX6
 have k7 : IntKind.i64.wrap (ex + X3) = X7 := by rw [IntWalk.i64_in _ (by omega)]; exact hX7
 have t2 : decide (X4 < -1074) = true := decide_eq_true (by omega)
 have t3 : decide (X3 ≤ 0) = false := decide_eq_false (by omega)
 have t4 : decide ((m : Int) + 1 < X3) = false := decide_eq_false (by omega)
 clear hn hc hm h hb hd h0 b1 b2 b3 hm2 hmm hcut hlo hX1 hX2 hX3 hX4 hX6 hX7
 go_enter Tryz.func139, Tryz.ntmps139
 go_wp2_with fail
 refine C1.out.mono ?_
 rintro e w1 ⟨rfl, hb1⟩
 go_wp2_with fail
 refine (C2.out _ hb1).mono ?_
 rintro e w2 ⟨A2, N2, c2, rfl, hN2, hc2, q2, hb2⟩
 obtain rfl : N2 = 0 := hN2
 have hb12 := Aa hb1 hb2
 have HC2 := Lh hc2
 clear hc2
 go_wp2_with fail
 refine (C3.out _ hb12).mono ?_
 rintro e w3 ⟨A3, N3, c3, rfl, hN3, hc3, p3, hb3⟩
 have HB := Lh (Aa hb12 hb3)
 have HQ3 := Lh (q2.step hb3)
 have HC3 := Lh hc3
 obtain rfl : N3 = 1 := hN3
 obtain ⟨pb, po, rfl, _, hcb⟩ := p3.2 (by rw [show (wds 1).length = 1 by decide]; omega)
 have l2 := hcb 0 1 (by decide)
 rw [Nat.add_zero] at l2
 clear hb1 hb2 hb3 hb12 hc3 q2 p3 C1 C2 C3 hcb
 have K1 := Lh (show Cp 191 #[.slice A2 0 c2, .int .i64 1] w3 fun e w' => e = .returned (.int .u64 0) ∧ w3 = w' from Ao A2 0 c2 1 (wds 0) w3.heap.size w3 rfl (by omega) HQ3.out)
 have K0 := Lh (show Cp 191 #[.slice A2 0 c2, .int .i64 0] w3 fun e w' => e = .returned (.int .u64 0) ∧ w3 = w' from Ao A2 0 c2 0 (wds 0) w3.heap.size w3 rfl (by omega) HQ3.out)
 go_wp2_with fail
 refine K1.out.mono ?_
 rintro e w' ⟨rfl, rfl⟩
 go_wp2_with fail
 refine K0.out.mono ?_
 rintro e w' ⟨rfl, rfl⟩
 go_wp2_with fail
 refine Sm (C5.out _) ?_
 go_wp2
 go_ret
 exact ⟨rfl, HB.out⟩
theorem Aj5 (A : Option Addr) (n c d mm u : Nat) (ex : Int) (l : List Nat) (w : World) (hn : l.length = n) (hc : n ≤ c) (hm : n ≤ 35184372087808) (h : RW w w.heap.size A l) (hb : btl l = mm) (hd : d ≤ 32768) (hmm : 0 < mm) (hcut : -1074 - ex = ((d + 1 : Nat) : Int)) (hlo : d + 1 = mm) (hmo0 : decide (val l % 2 ^ d ≠ 0) = true)
  (C5 : RowKit.Hid (∀ W, Cq 179 #[.float .f64 (fl 1), .int .i64 (ex + ((d + 1 : Nat) : Int))] (.float .f64 u) W)) :
  Ct 139 #[.slice A n c, .int .i64 ex] (.float .f64 u) w := by
 have C1 := Lh (Da A n c l w.heap.size w hn hc (by omega) h)
 have h0 : nrm l ≠ [] := by intro e; unfold btl at hb; rw [if_pos e] at hb; omega
 obtain ⟨b1, b2, b3⟩ := Bk h.1 h0
 rw [hb] at C1 b1 b2
 have C2 := Lh (fun W (hW : Below w.heap.size w W) => Dx A n c ((d + 1 : Nat) : Int) l W hn hc hm ((h.below hW).more hW.size))
 have C3 := Lh (fun W (hW : Below w.heap.size w W) => Dx A n c (((d + 1 : Nat) : Int) - 1) l W hn hc hm ((h.below hW).more hW.size))
 rw [show (((d + 1 : Nat) : Int)).toNat = d + 1 by omega] at C2
 rw [show (((d + 1 : Nat) : Int) - 1).toNat = d by omega] at C3
 obtain ⟨v, hv⟩ : ∃ v, val l = v := ⟨_, rfl⟩
 rw [hv] at C2 C3 b1 b2 hmo0
 have z1 : v / 2 ^ (d + 1) = 0 := Nat.div_eq_of_lt (by rw [hlo]; exact b2)
 have z2 : v / 2 ^ d = 1 := by
  have e1 : 2 ^ d ≤ v := by rw [show d = mm - 1 by omega]; exact b1
  have e2 : v < 2 * 2 ^ d := by rw [Nat.mul_comm, ← Nat.pow_succ, show d.succ = mm by omega]; exact b2
  have l1 : 1 ≤ v / 2 ^ d := (Nat.le_div_iff_mul_le (Nat.two_pow_pos d)).2 (by omega)
  have l2 : v / 2 ^ d < 2 := (Nat.div_lt_iff_lt_mul (Nat.two_pow_pos d)).2 e2
  omega
 unfold ShrQ at C2 C3
 rw [z1] at C2
 rw [z2] at C3
 rw [show (wds 0).length = 0 by decide] at C2
 rw [show (wds 1).length = 1 by decide] at C3
 obtain ⟨mo, hmo⟩ : ∃ mo, decide (v % 2 ^ d ≠ 0) = mo := ⟨_, rfl⟩
 obtain ⟨mq, hmq⟩ : ∃ mq, decide (v % 2 ^ (d + 1) ≠ 0) = mq := ⟨_, rfl⟩
 rw [hmq] at C2
 rw [hmo] at C3 hmo0
 have o2 := Fv 1 (by omega)
 clear hv z1 z2 hmo hmq
 subst hmo0
 obtain ⟨m, hm2⟩ : ∃ m, mm = m := ⟨_, rfl⟩
 rw [hm2] at C1
 obtain ⟨X1, hX1⟩ : ∃ X1, (m : Int) + ex = X1 := ⟨_, rfl⟩
 obtain ⟨X2, hX2⟩ : ∃ X2, (m : Int) - 53 = X2 := ⟨_, rfl⟩
 obtain ⟨X4, hX4⟩ : ∃ X4, X2 + ex = X4 := ⟨_, rfl⟩
 obtain ⟨X3, hX3⟩ : ∃ X3, ((d + 1 : Nat) : Int) = X3 := ⟨_, rfl⟩
 obtain ⟨X6, hX6⟩ : ∃ X6, X3 - 1 = X6 := ⟨_, rfl⟩
 obtain ⟨X7, hX7⟩ : ∃ X7, ex + X3 = X7 := ⟨_, rfl⟩
 rw [hX3] at C2 C3 C5 hcut
 rw [hX6] at C3
 rw [hX7] at C5
 have t0 : ((m : Int) == 0) = false := by rw [beq_eq_false_iff_ne]; omega
 have t1 : decide ((1024 : Int) < X1) = false := decide_eq_false (by omega)
 have k1 : IntKind.i64.wrap ((m : Int)) = (m : Int) := IntWalk.i64_in _ (by omega)
 have k2 : IntKind.i64.wrap ((m : Int) + ex) = X1 := by rw [IntWalk.i64_in _ (by omega)]; exact hX1
 have k3 : IntKind.i64.wrap ((m : Int) - 53) = X2 := by rw [IntWalk.i64_in _ (by omega)]; exact hX2
 have k8 : IntKind.i64.wrap (-1074 - ex) = X3 := by rw [IntWalk.i64_in _ (by omega)]; exact hcut
 have k4 : IntKind.i64.wrap (X2 + ex) = X4 := by rw [IntWalk.i64_in _ (by omega)]; exact hX4
 have k5 : IntKind.i64.wrap ((m : Int) + 1) = (m : Int) + 1 := IntWalk.i64_in _ (by omega)
 have k6 : IntKind.i64.wrap (X3 - 1) = X6 := by rw [IntWalk.i64_in _ (by omega)]; exact hX6
 have k7 : IntKind.i64.wrap (ex + X3) = X7 := by rw [IntWalk.i64_in _ (by omega)]; exact hX7
 have t2 : decide (X4 < -1074) = true := decide_eq_true (by omega)
 have t3 : decide (X3 ≤ 0) = false := decide_eq_false (by omega)
 have t4 : decide ((m : Int) + 1 < X3) = false := decide_eq_false (by omega)
 clear hn hc hm h hb hd h0 b1 b2 b3 hm2 hmm hcut hlo hX1 hX2 hX3 hX4 hX6 hX7
 go_enter Tryz.func139, Tryz.ntmps139
 go_wp2_with fail
 refine C1.out.mono ?_
 rintro e w1 ⟨rfl, hb1⟩
 go_wp2_with fail
 refine (C2.out _ hb1).mono ?_
 rintro e w2 ⟨A2, N2, c2, rfl, hN2, hc2, q2, hb2⟩
 obtain rfl : N2 = 0 := hN2
 have hb12 := Aa hb1 hb2
 have HC2 := Lh hc2
 clear hc2
 go_wp2_with fail
 refine (C3.out _ hb12).mono ?_
 rintro e w3 ⟨A3, N3, c3, rfl, hN3, hc3, p3, hb3⟩
 have HB := Lh (Aa hb12 hb3)
 have HQ3 := Lh (q2.step hb3)
 have HC3 := Lh hc3
 obtain rfl : N3 = 1 := hN3
 obtain ⟨pb, po, rfl, _, hcb⟩ := p3.2 (by rw [show (wds 1).length = 1 by decide]; omega)
 have l2 := hcb 0 1 (by decide)
 rw [Nat.add_zero] at l2
 clear hb1 hb2 hb3 hb12 hc3 q2 p3 C1 C2 C3 hcb
 have C6 := Lh (E9 A2 (some ⟨w3.heap.size, 0, none⟩) 0 c2 1 1 (wds 0) [1] (w3.alloc (.cells #[.int .u32 1] 129)) (by decide) (by omega) (HQ3.out.step ((Below.refl w3.heap.size w3).alloc (Nat.le_refl _) _)) rfl (by omega) ((Nn w3).more (by simp)))
 rw [Ae, show val [1] = 1 from rfl] at C6
 go_wp2_with fail
 refine C6.out.mono ?_
 rintro e w5 ⟨v5, rfl, ⟨A5, c5, rfl, hc5, r5⟩, b5⟩
 have HB5 := Lh (Aa HB.out (Aa ((Below.refl w3.heap.size w3).alloc (Nat.le_refl _) _) b5))
 rw [show (wds (0 + 1)).length = 1 by decide] at hc5 ⊢
 have HR5 := Lh r5
 clear hc5 r5 b5 C6
 go_wp2_with fail
 have K1 := Lh (show Cp 191 #[.slice A5 1 c5, .int .i64 1] w5 fun e w' => e = .returned (.int .u64 0) ∧ w5 = w' from Ao A5 1 c5 1 (wds (0 + 1)) w5.heap.size w5 (by decide) (by omega) HR5.out)
 have K0 := Lh (show Cp 191 #[.slice A5 1 c5, .int .i64 0] w5 fun e w' => e = .returned (.int .u64 1) ∧ w5 = w' from Ao A5 1 c5 0 (wds (0 + 1)) w5.heap.size w5 (by decide) (by omega) HR5.out)
 refine K1.out.mono ?_
 rintro e w' ⟨rfl, rfl⟩
 go_wp2_with fail
 refine K0.out.mono ?_
 rintro e w' ⟨rfl, rfl⟩
 go_wp2_with fail
 refine Sm (C5.out _) ?_
 go_wp2
 go_ret
 exact ⟨rfl, HB5.out⟩
theorem Abs {N K : Nat} (h : N ≤ 9007199254740992) (hK : K = 1074) : fl N < 9218868437227405312 ∧ Ac (fl N) = N * 2 ^ K := by
 rcases Nat.eq_or_lt_of_le h with h1 | h1
 ·rw [h1, show fl 9007199254740992 = 4845873199050653696 by decide +kernel]
  refine ⟨by omega, ?_⟩
  obtain ⟨d, hd⟩ : ∃ d : Nat, d = 1075 := ⟨_, rfl⟩
  have := Ax 4503599627370496 d (by omega) (by omega)
  rw [show d * 4503599627370496 + 4503599627370496 = 4845873199050653696 by omega] at this
  rw [this, show d = K + 1 by omega, Nat.pow_succ, Nat.mul_comm (2 ^ K) 2, ← Nat.mul_assoc]
 ·obtain ⟨a, b⟩ := Nb h1 hK
  exact ⟨b, a⟩
theorem Rf {D E : Nat} (hE : E ≤ 9007199254740992) (hD : D = 0 ∨ 4503599627370496 ≤ E) : Ac (D * 4503599627370496 + E) = E * 2 ^ D := by
 rcases Nat.eq_or_lt_of_le hE with h | h
 ·rw [h, show D * 4503599627370496 + 9007199254740992 = (D + 1) * 4503599627370496 + 4503599627370496 by omega, Ax _ _ (by omega) (by omega), Nat.pow_succ, Nat.mul_comm (2 ^ D) 2, ← Nat.mul_assoc]
 ·rcases hD with h0 | h0
  ·rw [h0, Nat.zero_mul, Nat.zero_add, Nat.pow_zero, Nat.mul_one]; exact Ej h
  ·exact Ax _ _ h0 h
theorem Abn {E D : Nat} {e' : Int} (hE : E ≤ 9007199254740992) (hD : D = 0 ∨ 4503599627370496 ≤ E) (hD2 : D ≤ 2045) (he : e' = (D : Int) - 1074) (w : World) : Cq 179 #[.float .f64 (fl E), .int .i64 e'] (.float .f64 (min (D * 4503599627370496 + E) 9218868437227405312)) w := by
 obtain ⟨K, hK⟩ : ∃ K : Nat, K = 1074 := ⟨_, rfl⟩
 obtain ⟨y1, y2⟩ := Abs hE hK
 have hmk := Rf hE hD
 rcases Nat.eq_zero_or_pos E with h0 | h0
 ·subst h0
  have : D = 0 := by omega
  subst this
  rw [fl_zero]
  exact Po e' w
 ·have hy0 : 0 < fl E := F3.1 (by rw [y2]; exact Nat.mul_pos h0 (Nat.two_pow_pos K))
  have hyn : 4503599627370496 ≤ fl E := by
   rcases Nat.lt_or_ge (fl E) 4503599627370496 with h | h
   ·have h1 := Ej (r := fl E) (by omega)
    rw [y2] at h1
    have h2 : 1 * 2 ^ K ≤ E * 2 ^ K := Nat.mul_le_mul_right _ h0
    have h3 : 2 ^ 60 ≤ 2 ^ K := Nat.pow_le_pow_right (by omega) (by omega)
    have h4 : (2 : Nat) ^ 60 = 1152921504606846976 := by decide
    omega
   ·exact h
  rcases Nat.lt_or_ge (D * 4503599627370496 + E) 9218868437227405312 with h | h
  ·rw [Nat.min_eq_left (by omega)]
   rcases Nat.lt_or_ge D K with h1 | h1
   ·obtain ⟨j, hj⟩ : ∃ j, K = D + j := ⟨K - D, by omega⟩
    have := P0 (y := fl E) (D := j) (u := D * 4503599627370496 + E) hyn y1 (by omega) (by rw [hmk, y2, hj, Nat.pow_add, Nat.mul_assoc]) w
    rw [show e' = -(j : Int) by omega]
    exact this
   ·obtain ⟨j, hj⟩ : ∃ j, D = K + j := ⟨D - K, by omega⟩
    have := Rw (y := fl E) (D := j) (u := D * 4503599627370496 + E) hy0 y1 h (by rw [hmk, y2, hj, Nat.pow_add, Nat.mul_assoc]) w
    rw [show e' = (j : Int) by omega]
    exact this
  ·rw [Nat.min_eq_right h]
   have hD3 : D = 2045 := by omega
   have hE3 : E = 9007199254740992 := by omega
   have := Kp (fl E) 971 w hyn y1 (by omega)
   rw [show scl (fl E) 971 = 9218868437227405312 from by rw [hE3, show fl 9007199254740992 = 4845873199050653696 by decide +kernel]; decide] at this
   rw [show e' = ((971 : Nat) : Int) by omega]
   exact this
theorem Ae2 (A : Option Addr) (n c a b : Nat) (ex : Int) (l : List Nat) (w : World) (hn : l.length = n) (hc : n ≤ c) (hm : n ≤ 35184372087808) (h : RW w w.heap.size A l) (hb : btl l ≤ 32768) (he1 : -32768 ≤ ex) (he2 : ex ≤ 32768) (hab : (a : Int) - b = ex + 1074) :
  Ct 139 #[.slice A n c, .int .i64 ex] (.float .f64 (rnd (val l * 2 ^ a) (2 ^ b))) w := by
 have hB := Nat.two_pow_pos b
 rcases Nat.eq_zero_or_pos (btl l) with h0 | h0
 ·have h1 : val l = 0 := by
   by_cases e : nrm l = []
   ·have := Ar l
    rw [e] at this
    exact this.symm
   ·have b2 := (Bk h.1 e).2.1
    rw [h0, Nat.pow_zero] at b2
    omega
  have h2 : rnd (val l * 2 ^ a) (2 ^ b) = 0 := by
   rw [h1, Nat.zero_mul]
   unfold rnd Bi
   rw [Nat.zero_div, Rs]
   rfl
  rw [h2]
  exact Pt A n c ex l w hn hc hm h (by assumption)
 ·have hne : nrm l ≠ [] := by intro e; unfold btl at h0; rw [if_pos e] at h0; omega
  obtain ⟨b1, b2, b3⟩ := Bk h.1 hne
  obtain ⟨m, hm2⟩ : ∃ m, btl l = m := ⟨_, rfl⟩
  rw [hm2] at b1 b2 h0 hb
  obtain ⟨v, hv⟩ : ∃ v, val l = v := ⟨_, rfl⟩
  rw [hv] at b1 b2 ⊢
  by_cases hinf : 1024 < (m : Int) + ex
  ·have : rnd (v * 2 ^ a) (2 ^ b) = 9218868437227405312 := by
    unfold rnd
    refine Nat.min_eq_right ?_
    have hp : 2046 ≤ Bi (v * 2 ^ a) (2 ^ b) := by
     unfold Bi
     have h1 : 2 ^ (m - 1 + a - b) ≤ v * 2 ^ a / 2 ^ b := by
      rw [Nat.le_div_iff_mul_le hB, ← Nat.pow_add, show m - 1 + a - b + b = m - 1 + a by omega, Nat.pow_add]
      exact Nat.mul_le_mul_right _ b1
     have h2 := (Nat.le_log2 (by have := Nat.two_pow_pos (m - 1 + a - b); omega)).2 h1
     omega
    have hc1 : 4503599627370496 ≤ Db (v * 2 ^ a) (2 ^ Bi (v * 2 ^ a) (2 ^ b) * 2 ^ b) := by
     refine Ng (Nat.mul_pos (Nat.two_pow_pos _) hB) ?_
     obtain ⟨D, hD⟩ : ∃ D, Bi (v * 2 ^ a) (2 ^ b) = D := ⟨_, rfl⟩
     rw [hD] at hp ⊢
     unfold Bi at hD
     have h3 : 2 ^ (v * 2 ^ a / 2 ^ b).log2 ≤ v * 2 ^ a / 2 ^ b := (Dc _ (by
      rcases Nat.eq_zero_or_pos (v * 2 ^ a / 2 ^ b) with h4 | h4
      ·rw [h4, show Nat.log2 0 = 0 by decide] at hD; omega
      ·exact h4)).1
     have h5 := (Nat.le_div_iff_mul_le hB).1 h3
     rw [show (v * 2 ^ a / 2 ^ b).log2 = 52 + D by omega, Nat.pow_add] at h5
     rw [show (4503599627370496 : Nat) = 2 ^ 52 from rfl, ← Nat.mul_assoc]
     exact h5
    have : 2046 * 4503599627370496 ≤ Bi (v * 2 ^ a) (2 ^ b) * 4503599627370496 := Nat.mul_le_mul_right _ hp
    omega
   rw [this]
   exact Aer A n c ex l w hn hc hm h (by omega) (by omega) (by omega) (by rw [hm2]; exact hinf)
  ·-- the place
   obtain ⟨D, hD⟩ : ∃ D : Nat, (max ((m : Int) - 53 + ex + 1074) 0).toNat = D := ⟨_, rfl⟩
   have hpl : Bi (v * 2 ^ a) (2 ^ b) = D := by
    refine Ed hB ?_ ?_
    ·rcases Nat.eq_zero_or_pos D with h1 | h1
     ·exact Or.inl h1
     ·refine Or.inr ?_
      rw [show (4503599627370496 : Nat) = 2 ^ 52 from rfl, ← Nat.pow_add, ← Nat.pow_add]
      refine Nat.le_trans ?_ (Nat.mul_le_mul_right _ b1)
      rw [← Nat.pow_add]
      exact Nat.pow_le_pow_right (by omega) (by omega)
    ·refine Nat.lt_of_lt_of_le (Nat.mul_lt_mul_of_pos_right b2 (Nat.two_pow_pos a)) ?_
     rw [show (9007199254740992 : Nat) = 2 ^ 53 from rfl, ← Nat.pow_add, ← Nat.pow_add, ← Nat.pow_add]
     exact Nat.pow_le_pow_right (by omega) (by omega)
   have hrnd : rnd (v * 2 ^ a) (2 ^ b) = min (D * 4503599627370496 + Db (v * 2 ^ a) (2 ^ D * 2 ^ b)) 9218868437227405312 := by unfold rnd; rw [hpl]
   rw [hrnd]
   -- the digits kept, either way
   have hup : ∀ k : Nat, (D : Int) - 1074 - ex = -(k : Int) → Db (v * 2 ^ a) (2 ^ D * 2 ^ b) = v * 2 ^ k := by
    intro k hk
    rw [← Nat.pow_add]
    have e0 : evn (v * 2 ^ k) 0 = v * 2 ^ k := by have := Eb (v * 2 ^ k) 0; rwa [Nat.pow_zero, Nat.mul_one] at this
    rw [← e0, ← Nl, Nat.pow_zero]
    have := Cm (u := v * 2 ^ k) (w := 1) (k := 2 ^ (D + b)) (Nat.two_pow_pos _)
    rw [Nat.one_mul] at this
    rw [← this, Nat.mul_assoc, ← Nat.pow_add, show k + (D + b) = a by omega]
   have hdn : ∀ k : Nat, (D : Int) - 1074 - ex = (k : Int) → Db (v * 2 ^ a) (2 ^ D * 2 ^ b) = evn v k := by
    intro k hk
    rw [← Nat.pow_add, ← Nl, show D + b = k + a by omega, Nat.pow_add, Cm (Nat.two_pow_pos a)]
   rcases Int.lt_or_le ((D : Int) - 1074 - ex) 1 with hcut | hcut
   ·obtain ⟨k, hk⟩ : ∃ k : Nat, (D : Int) - 1074 - ex = -(k : Int) := ⟨(-((D : Int) - 1074 - ex)).toNat, by omega⟩
    rw [hup k hk]
    have hv53 : v < 9007199254740992 := Nat.lt_of_lt_of_le b2 (Nat.le_trans (Nat.pow_le_pow_right (by omega) (show m ≤ 53 by omega)) (by decide))
    have hc3 : v * 2 ^ k < 9007199254740992 := by
     have h1 : v * 2 ^ k < 2 ^ m * 2 ^ k := Nat.mul_lt_mul_of_pos_right b2 (Nat.two_pow_pos k)
     rw [← Nat.pow_add] at h1
     exact Nat.lt_of_lt_of_le h1 (Nat.le_trans (Nat.pow_le_pow_right (by omega) (show m + k ≤ 53 by omega)) (by decide))
    have hc4 : D = 0 ∨ 4503599627370496 ≤ v * 2 ^ k := by
     rcases Nat.eq_zero_or_pos D with h1 | h1
     ·exact Or.inl h1
     ·refine Or.inr ?_
      refine Nat.le_trans ?_ (Nat.mul_le_mul_right _ b1)
      rw [← Nat.pow_add, show m - 1 + k = 52 by omega]
      decide
    have hmk := Rf (D := D) (E := v * 2 ^ k) (by omega) hc4
    have hD2 : D ≤ 2045 := by omega
    rw [Nat.min_eq_left (by omega)]
    refine Aib A n c _ ex l w hn hc hm h (by rw [hv]; exact hv53) (by omega) (by omega) (by omega) ?_
    rw [hv, hmk, Nat.mul_assoc, ← Nat.pow_add, show k + D = (ex + 1074).toNat by omega]
   ·obtain ⟨d, hd⟩ : ∃ d : Nat, (D : Int) - 1074 - ex = ((d + 1 : Nat) : Int) := ⟨((D : Int) - 1074 - ex - 1).toNat, by omega⟩
    rw [hdn (d + 1) hd]
    have hE : evn v (d + 1) ≤ 9007199254740992 := by
     refine Am3 (Nat.le_of_lt (Nat.lt_of_lt_of_le b2 ?_))
     rw [show (9007199254740992 : Nat) = 2 ^ 53 from rfl, ← Nat.pow_add]
     exact Nat.pow_le_pow_right (by omega) (by omega)
    have hE2 : D = 0 ∨ 4503599627370496 ≤ evn v (d + 1) := by
     rcases Nat.eq_zero_or_pos D with h1 | h1
     ·exact Or.inl h1
     ·refine Or.inr (Aoc ?_)
      rw [show (4503599627370496 : Nat) = 2 ^ 52 from rfl, ← Nat.pow_add]
      exact Nat.le_trans (Nat.pow_le_pow_right (by omega) (by omega)) b1
    have C5 := Lh (fun W => Abn (e' := (D : Int) - 1074) hE hE2 (by omega) rfl W)
    by_cases hr : m = 54 + d
    ·refine Vj A n c d _ ex l w hn hc hm h (by rw [hm2]; exact hr) (by omega) (by omega) (by omega) ?_
     rw [hv, show ex + (((54 + d : Nat) : Int) - 53) = (D : Int) - 1074 by omega]
     exact C5
    ·have hD0 : D = 0 := by omega
     have he : ex + ((d + 1 : Nat) : Int) = (D : Int) - 1074 := by omega
     rcases Nat.lt_trichotomy (d + 1) m with h1 | h1 | h1
     ·refine Ad1 A n c d m _ ex l w hn hc hm h hm2 (by omega) (by omega) (by omega) h1 (by omega) ?_
      rw [hv, he]
      exact C5
     ·have hq : v / 2 ^ (d + 1) = 0 := Nat.div_eq_of_lt (by rw [h1]; exact b2)
      have hev := Od v d
      have hp : v / 2 ^ d = 1 := by
       have e1 : 2 ^ d ≤ v := by rw [show d = m - 1 by omega]; exact b1
       have e2 : v < 2 * 2 ^ d := by rw [Nat.mul_comm, ← Nat.pow_succ, show d.succ = m by omega]; exact b2
       have l1 : 1 ≤ v / 2 ^ d := (Nat.le_div_iff_mul_le (Nat.two_pow_pos d)).2 (by omega)
       have l2 : v / 2 ^ d < 2 := (Nat.div_lt_iff_lt_mul (Nat.two_pow_pos d)).2 e2
       omega
      rw [hq, hp] at hev
      cases hmo : decide (v % 2 ^ d ≠ 0)
      ·rw [hmo] at hev
       have hev0 : evn v (d + 1) = 0 := by rw [hev]; decide
       rw [hev0, fl_zero, ← he] at C5
       rw [hev0]
       exact Aac A n c d m _ ex l w hn hc hm h hm2 (by omega) (by omega) (by omega) h1 (by rw [hv]; exact hmo) C5
      ·rw [hmo] at hev
       have hev1 : evn v (d + 1) = 1 := by rw [hev]; decide
       rw [hev1, ← he] at C5
       rw [hev1]
       exact Aj5 A n c d m _ ex l w hn hc hm h hm2 (by omega) (by omega) (by omega) h1 (by rw [hv]; exact hmo) C5
     ·have hev0 : evn v (d + 1) = 0 := by
       refine Tv ?_
       rw [Nat.pow_succ]
       have : v < 2 ^ d := Nat.lt_of_lt_of_le b2 (Nat.pow_le_pow_right (by omega) (by omega))
       omega
      rw [hev0, fl_zero, ← he] at C5
      rw [hev0]
      by_cases h2 : d = m
      ·exact Aaw A n c d m _ ex l w hn hc hm h hm2 (by omega) (by omega) (by omega) h2 C5
      ·rw [hD0]
       exact Adx A n c ex l w hn hc hm h (by omega) (by omega) (by omega) (by rw [hm2]; omega)
end
section
structure NV (w : World) (A : Option Addr) (n c v : Nat) : Prop where
 len : (wds v).length = n
 cap : n ≤ c
 row : RW w w.heap.size A (wds v)
theorem NV.step {w w' : World} {A : Option Addr} {n c v : Nat} (h : NV w A n c v) (hb : Below w.heap.size w w') : NV w' A n c v := ⟨h.len, h.cap, h.row.step hb⟩
def bln (v : Nat) : Nat := btl (wds v)
theorem Ak1 {v : Nat} (h : 0 < v) : nrm (wds v) ≠ [] := by
 intro e
 have := Nu e
 rw [Ae] at this
 omega
theorem Be {v : Nat} (h : 0 < v) : 2 ^ (bln v - 1) ≤ v ∧ v < 2 ^ bln v ∧ 0 < bln v := by
 have := Bk (Bh v) (Ak1 h)
 rw [Ae] at this
 exact this
theorem J8 : bln 0 = 0 := by decide
theorem Gd {v L : Nat} (h : v < 2 ^ L) : bln v ≤ L := by
 rcases Nat.eq_zero_or_pos v with h0 | h0
 ·rw [h0, J8]; omega
 ·have h1 := (Be h0).1
  have h2 := (Nat.pow_lt_pow_iff_right (a := 2) (by omega)).1 (Nat.lt_of_le_of_lt h1 h)
  omega
theorem Agw {v L : Nat} (h : v < 2 ^ (32 * L)) : (wds v).length ≤ L := by
 refine Bl ?_
 rw [show (4294967296 : Nat) = 2 ^ 32 from rfl, ← Nat.pow_mul]
 exact h
theorem Bb {v : Nat} (h : bln v ≤ 30000) : (wds v).length ≤ 940 := by
 obtain ⟨L, hL⟩ : ∃ L : Nat, L = 940 := ⟨_, rfl⟩
 rw [← hL]
 rcases Nat.eq_zero_or_pos v with h0 | h0
 ·rw [h0]; show 0 ≤ L; omega
 ·exact Agw (Nat.lt_of_lt_of_le (Be h0).2.1 (Nat.pow_le_pow_right (by omega) (by omega)))
theorem Cv {v : Nat} (h : bln v ≤ 30000) : An v = false := by
 unfold An
 have := Bb h
 exact decide_eq_false (by omega)
theorem Fq (a b : Nat) : bln (a * b) ≤ bln a + bln b := by
 rcases Nat.eq_zero_or_pos a with h0 | h0
 ·rw [h0, Nat.zero_mul, J8]; omega
 rcases Nat.eq_zero_or_pos b with h1 | h1
 ·rw [h1, Nat.mul_zero, J8]; omega
 ·refine Gd ?_
  rw [Nat.pow_add]
  exact Nat.mul_lt_mul'' (Be h0).2.1 (Be h1).2.1
theorem Cx {a b : Nat} (h : a ≤ b) : bln a ≤ bln b := by
 rcases Nat.eq_zero_or_pos b with h0 | h0
 ·have : a = 0 := by omega
  rw [this, h0]; omega
 ·exact Gd (Nat.lt_of_le_of_lt h (Be h0).2.1)
theorem Jv (k : Nat) : bln (2 ^ k) ≤ k + 1 := Gd (by rw [Nat.pow_succ]; have := Nat.two_pow_pos k; omega)
theorem Ne (b k : Nat) : bln (b ^ k) ≤ bln b * k + 1 := by
 rcases Nat.eq_zero_or_pos b with h0 | h0
 ·cases k with
  | zero => rw [Nat.pow_zero, show bln 1 = 1 by decide]; omega
  | succ k => rw [h0, Nat.zero_pow (by omega), J8]; omega
 ·refine Gd ?_
  have h1 := (Be h0).2.1
  have h2 : b ^ k ≤ (2 ^ bln b) ^ k := Nat.pow_le_pow_left (Nat.le_of_lt h1) k
  rw [← Nat.pow_mul] at h2
  rw [Nat.pow_succ]
  have := Nat.two_pow_pos (bln b * k)
  omega
theorem Hs (k : Nat) : bln (5 ^ k) ≤ 3 * k + 1 := by have := Ne 5 k; rw [show bln 5 = 3 by decide] at this; exact this
theorem He (k : Nat) : bln (10 ^ k) ≤ 4 * k + 1 := by have := Ne 10 k; rw [show bln 10 = 4 by decide] at this; exact this
/-! ### The program's functions -/
def NOk (v : Nat) (w : World) (e : Ending) (w' : World) : Prop := ∃ A n c, e = .returned (.tuple #[.slice A n c, .int .i64 0]) ∧ NV w' A n c v ∧ Below w.heap.size w w'
theorem NOk.of {v : Nat} {w w' : World} {e : Ending} (hl : An v = false) (h : NatPost v w e w') : NOk v w e w' := by
 obtain ⟨A, n, c, k, he, hp, hb⟩ := h
 rw [if_neg (by rw [hl]; simp)] at hp
 obtain ⟨h1, h2, h3, h4⟩ := hp
 subst h3
 exact ⟨A, n, c, he, ⟨h1.symm, h2, h4⟩, hb⟩
theorem Ao3 {w : World} {A C : Option Addr} {n c m d a b : Nat} (hA : NV w A n c a) (hB : NV w C m d b) (ha : bln a ≤ 15000) (hb : bln b ≤ 15000) :
  Cp 227 #[.slice A n c, .slice C m d] w (NOk (a * b) w) := by
 have la := Cv (v := a) (by omega)
 have lb := Cv (v := b) (by omega)
 have lab := Cv (v := a * b) (Nat.le_trans (Fq a b) (by omega))
 have h1 := Bb (v := a) (by omega)
 have h2 := Bb (v := b) (by omega)
 rw [hA.len] at h1
 rw [hB.len] at h2
 have := Amc A C n c m d (wds a) (wds b) w hA.len hA.cap (by omega) hA.row hB.len hB.cap (by omega) hB.row
 rw [Ae, Ae] at this
 refine this.mono fun e w' x => ?_
 unfold M4 at x
 rw [if_neg (by rw [la, lb]; simp)] at x
 exact NOk.of lab x
theorem Ao0 (b n : Nat) (w : World) (hb : b < 4294967296) (hl : bln (b ^ n) ≤ 30000) (hn : n < 100000) : Cp 226 #[.int .u32 b, .int .i64 n] w (NOk (b ^ n) w) :=
 (Ako b n w hb (by omega)).mono fun e w' x => NOk.of (Cv hl) x
theorem Anc {w : World} {A : Option Addr} {n c a : Nat} (hA : NV w A n c a) (p : Nat) (ha : bln a + p ≤ 29000) : Cp 201 #[.slice A n c, .int .i64 p] w (NOk (a * 2 ^ p) w) := by
 have la := Cv (v := a) (by omega)
 have h1 := Bb (v := a) (by omega)
 rw [hA.len] at h1
 have hp := Jv p
 have lab := Cv (v := a * 2 ^ p) (Nat.le_trans (Fq a _) (by omega))
 have := Ahy A n c p (wds a) w hA.len hA.cap (by omega) hA.row
 rw [Ae] at this
 refine this.mono fun e w' x => ?_
 unfold Wo at x
 rw [if_neg (by rw [la]; simp), if_neg (by omega), Int.toNat_natCast] at x
 exact NOk.of lab x
theorem Ao6 {w : World} {A C : Option Addr} {n c m d a b : Nat} (hA : NV w A n c a) (hB : NV w C m d b) (ha : bln (a + b) ≤ 30000) :
  Cp 203 #[.slice A n c, .slice C m d] w (NOk (a + b) w) := by
 have b1 := Cx (show a ≤ a + b by omega)
 have b2 := Cx (show b ≤ a + b by omega)
 have la := Cv (v := a) (by omega)
 have lb := Cv (v := b) (by omega)
 have h1 := Bb (v := a) (by omega)
 have h2 := Bb (v := b) (by omega)
 rw [hA.len] at h1
 rw [hB.len] at h2
 have := Alz A C n c m d (wds a) (wds b) w hA.len hA.cap (by omega) hA.row hB.len hB.cap (by omega) hB.row
 rw [Ae, Ae] at this
 refine this.mono fun e w' x => ?_
 unfold Amh at x
 rw [if_neg (by rw [la, lb]; simp)] at x
 exact NOk.of (Cv ha) x
theorem Ao7 {w : World} {A C : Option Addr} {n c m d a b : Nat} (hA : NV w A n c a) (hB : NV w C m d b) (ha : bln a ≤ 30000) (hle : b ≤ a) :
  Cp 202 #[.slice A n c, .slice C m d] w (NOk (a - b) w) := by
 have b2 := Cx hle
 have b3 := Cx (show a - b ≤ a by omega)
 have la := Cv (v := a) (by omega)
 have lb := Cv (v := b) (by omega)
 have h1 := Bb (v := a) (by omega)
 have h2 := Bb (v := b) (by omega)
 rw [hA.len] at h1
 rw [hB.len] at h2
 have := Ak9 A C n c m d (wds a) (wds b) w hA.len hA.cap (by omega) hA.row hB.len hB.cap (by omega) hB.row
 rw [Ae, Ae] at this
 refine this.mono fun e w' x => ?_
 unfold Akb at x
 rw [if_neg (by rw [la, lb]; simp), if_neg (by omega)] at x
 exact NOk.of (Cv (by omega)) x
def DOk (a b : Nat) (w : World) (e : Ending) (w' : World) : Prop := ∃ A n c C m d, e = .returned (.tuple #[.slice A n c, .slice C m d, .int .i64 0]) ∧ NV w' A n c (a / b) ∧ NV w' C m d (a % b) ∧ Below w.heap.size w w'
theorem Aoz {w : World} {A C : Option Addr} {n c m d a b : Nat} (hA : NV w A n c a) (hB : NV w C m d b) (ha : bln a ≤ 30000) (hb : bln b ≤ 30000) (h0 : 0 < b) :
  Cp 228 #[.slice A n c, .slice C m d] w (DOk a b w) := by
 have la := Cv (v := a) (by omega)
 have lb := Cv (v := b) (by omega)
 have h1 := Bb (v := a) (by omega)
 have h2 := Bb (v := b) (by omega)
 rw [hA.len] at h1
 rw [hB.len] at h2
 have := Al6 A C n c m d (wds a) (wds b) w hA.len hA.cap (by omega) hA.row hB.len hB.cap (by omega) hB.row
 rw [Ae, Ae] at this
 refine this.mono fun e w' x => ?_
 have hlb : (An a || An b) = false := by rw [la, lb]; rfl
 obtain ⟨A2, n2, c2, C2, m2, d2, he, ⟨x1, x2, x3, x4, x5, x6⟩, hbw⟩ := x
 have hB2 := Ts hlb h0
 unfold Ki at x1 x5
 unfold K5 at x3 x6
 rw [if_pos hB2] at x1 x5 x3 x6
 have hk : Hv a b = 0 := by unfold Hv; rw [if_neg (by rw [hlb]; simp), if_neg (by omega)]
 rw [hk] at he
 exact ⟨A2, n2, c2, C2, m2, d2, he, ⟨x1.symm, x2, x5⟩, ⟨x3.symm, x4, x6⟩, hbw⟩
theorem Abl {w : World} {A : Option Addr} {n c a : Nat} (hA : NV w A n c a) (ha : bln a ≤ 30000) : Cq 176 #[.slice A n c] (.int .i64 (bln a : Nat)) w := by
 have h1 := Bb (v := a) (by omega)
 rw [hA.len] at h1
 exact Gg A n c (wds a) w.heap.size w hA.len hA.cap (by omega) hA.row
def NRet (v : Nat) (w : World) (e : Ending) (w' : World) : Prop := ∃ A n c, e = .returned (.slice A n c) ∧ NV w' A n c v ∧ Below w.heap.size w w'
theorem NRet.of {v : Nat} {w w' : World} {e : Ending} (h : SlPost (wds v) w e w') : NRet v w e w' := by
 obtain ⟨V, he, ⟨A, c, hv, hc, hr⟩, hb⟩ := h
 subst hv
 exact ⟨A, _, c, he, ⟨rfl, hc, hr⟩, hb⟩
theorem nof (n : Nat) (hn : n < 18446744073709551616) (w : World) : Cp 187 #[.int .u64 n] w (NRet n w) :=
 (Nz n hn w).mono fun e w' x => NRet.of (by rw [Gj n hn] at x; exact x)
/-! ### The reference's functions -/
theorem Acf {w : World} {A C : Option Addr} {n c m d a b : Nat} (hA : NV w A n c a) (hB : NV w C m d b) (ha : bln a ≤ 30000) (hb : bln b ≤ 30000) :
  Cp 138 #[.slice A n c, .slice C m d] w (NRet (a * b) w) := by
 have h1 := Bb (v := a) (by omega)
 have h2 := Bb (v := b) (by omega)
 rw [hA.len] at h1
 rw [hB.len] at h2
 have := Rl A C n c m d (wds a) (wds b) w hA.len (by omega) hA.row hB.len (by omega) hB.row
 rw [Ae, Ae] at this
 exact this.mono fun e w' x => NRet.of x
theorem Am2 {w : World} {A C : Option Addr} {n c m d a b : Nat} (hA : NV w A n c a) (hB : NV w C m d b) (ha : bln a ≤ 30000) (hb : bln b ≤ 30000) :
  Cp 137 #[.slice A n c, .slice C m d] w (NRet (a + b) w) := by
 have h1 := Bb (v := a) (by omega)
 have h2 := Bb (v := b) (by omega)
 rw [hA.len] at h1
 rw [hB.len] at h2
 have := E9 A C n c m d (wds a) (wds b) w hA.len (by omega) hA.row hB.len (by omega) hB.row
 rw [Ae, Ae] at this
 exact this.mono fun e w' x => NRet.of x
theorem Aou {w : World} {A : Option Addr} {n c a : Nat} (hA : NV w A n c a) (p : Nat) (ha : bln a ≤ 30000) (hp : p ≤ 32768) : Cp 157 #[.slice A n c, .int .i64 p] w (NRet (a * 2 ^ p) w) := by
 have h1 := Bb (v := a) (by omega)
 rw [hA.len] at h1
 have := Aie A n c p (wds a) w hA.len hA.cap (by omega) hA.row hp
 rw [Ae] at this
 exact this.mono fun e w' x => NRet.of x
def W6 (a b : Nat) (w : World) (e : Ending) (w' : World) : Prop := ∃ A n c C m d, e = .returned (.tuple #[.slice A n c, .slice C m d]) ∧ NV w' A n c (a / b) ∧ NV w' C m d (a % b) ∧ Below w.heap.size w w'
theorem Aim {w : World} {A : Option Addr} {n c a : Nat} (hA : NV w A n c a) (ha : bln a ≤ 30000) : Ct 193 #[.slice A n c] (.int .i64 (bln a : Nat)) w := by
 have h1 := Bb (v := a) (by omega)
 rw [hA.len] at h1
 exact Da A n c (wds a) w.heap.size w hA.len hA.cap (by omega) hA.row
theorem Sy {w : World} {A : Option Addr} {n c a : Nat} (hA : NV w A n c a) (ha : bln a ≤ 30000) (x y : Nat) (ex : Int) (he1 : -32768 ≤ ex) (he2 : ex ≤ 32768) (hxy : (x : Int) - y = ex + 1074) :
  Ct 139 #[.slice A n c, .int .i64 ex] (.float .f64 (rnd (a * 2 ^ x) (2 ^ y))) w := by
 have h1 := Bb (v := a) (by omega)
 rw [hA.len] at h1
 have := Ae2 A n c x y ex (wds a) w hA.len hA.cap (by omega) hA.row (show bln a ≤ 32768 by omega) he1 he2 hxy
 rw [Ae] at this
 exact this
theorem Aiz {w : World} {A C : Option Addr} {n c m d a b : Nat} (hA : NV w A n c a) (hB : NV w C m d b) (ha : bln a ≤ 30000) (hb : bln b ≤ 30000) (h0 : 0 < b) :
  Cp 155 #[.slice A n c, .slice C m d] w (W6 a b w) := by
 have h1 := Bb (v := a) (by omega)
 have h2 := Bb (v := b) (by omega)
 rw [hA.len] at h1
 rw [hB.len] at h2
 have := Aav A C n c m d (wds a) (wds b) w hA.len (by omega) hA.row hB.len (by omega) hB.row (If b) (by rw [Ae]; exact h0)
 rw [Ae, Ae] at this
 refine this.mono fun e w' x => ?_
 obtain ⟨A2, n2, c2, C2, m2, d2, he, ⟨x1, x2, x3, x4, x5, x6⟩, hbw⟩ := x
 exact ⟨A2, n2, c2, C2, m2, d2, he, ⟨x1.symm, x2, x5⟩, ⟨x3.symm, x4, x6⟩, hbw⟩
theorem Ab2 {x : Nat} (h0 : 0 < x) (hx : x < 4294967296) : wds x = [x] := by
 have h := Bo (l := [x]) (Ws.cons hx Ws.nil)
 rw [show val [x] = x by simp [val]] at h
 rw [← h]
 exact Dq (fun e => by have := e.1; omega)
theorem NV.lit (W : World) (x : Nat) (h0 : 0 < x) (hx : x < 4294967296) : NV (W.alloc (.cells #[.int .u32 (x : Int)] 129)) (some ⟨W.heap.size, 0, none⟩) 1 1 x :=
 ⟨by rw [Ab2 h0 hx]; rfl, Nat.le_refl _, by rw [Ab2 h0 hx]; exact Hg W x hx⟩
end
section
theorem Bu {B g : Nat} {a w : World} (h : Below B a w) (hg : B ≤ g) (c : Array Value) : Below B a (w.setRow g c) :=
 ⟨h.os, h.tape, h.output, by rw [setRow_size]; exact h.size, fun k hk => (setRow_other w g k c (by omega)).trans (h.block k hk)⟩
theorem Bx {fn : Func} {p t u : Tmp} {ty : TypeId} (h : fn.results = #[.cell p ty, .tmp t, .tmp u]) (tmps : Array Value) (P : Program) (w : World) (a : Addr) (v : Value) (ha : tmps.getD p undef = .pointer (some a)) (hl : (loadVar ty a).run P w = .ok v w) :
  (results fn tmps).run P w = .ok (.tuple #[v, tmps.getD t undef, tmps.getD u undef]) w := by
 simp only [results, h]
 simp [-Array.getD_eq_getD_getElem?, ha, asAddr, hl]
def Rc (w : World) (g : Nat) (a b c : Value) : Prop := w.heap[g]? = some (.cells #[a, b, c] 102 (0, 0))
theorem Rc.cells {w : World} {g : Nat} {a b c : Value} (h : Rc w g a b c) : w.cell? ⟨g, 0, none⟩ = some a ∧ w.cell? ⟨g, 1, none⟩ = some b ∧ w.cell? ⟨g, 2, none⟩ = some c ∧ (∀ k, w.frozen? ⟨g, k, none⟩ = false) := by
 unfold Rc at h
 refine ⟨by simp [World.cell?, h], by simp [World.cell?, h], by simp [World.cell?, h], fun k => by simp [World.frozen?, h]⟩
theorem Rc.below {w w' : World} {g B : Nat} {a b c : Value} (h : Rc w g a b c) (hb : Below B w w') (hg : g < B) : Rc w' g a b c := (hb.block g hg).trans h
theorem Rc.set0 {w : World} {g : Nat} {a b c : Value} (h : Rc w g a b c) (v : Value) : Rc (w.setCell ⟨g, 0, none⟩ v) g v b c := by
 have := heap_setCell_same w g 0 _ _ v h
 exact this
theorem Rc.set1 {w : World} {g : Nat} {a b c : Value} (h : Rc w g a b c) (v : Value) : Rc (w.setCell ⟨g, 1, none⟩ v) g a v c := by
 have := heap_setCell_same w g 1 _ _ v h
 exact this
theorem Rc.set2 {w : World} {g : Nat} {a b c : Value} (h : Rc w g a b c) (v : Value) : Rc (w.setCell ⟨g, 2, none⟩ v) g a b v := by
 have := heap_setCell_same w g 2 _ _ v h
 exact this
theorem Rc.other {w : World} {g k i : Nat} {a b c v : Value} (h : Rc w g a b c) (hk : g ≠ k) : Rc (w.setCell ⟨k, i, none⟩ v) g a b c := (heap_setCell_other w ⟨k, i, none⟩ g v hk).trans h
def zs : Value := .string ⟨#[]⟩
structure Rd (W w : World) (a b c : Value) : Prop where
 lo : Rc w W.heap.size zs zs (.int .i64 0)
 hi : Rc w (W.heap.size + 1) a b c
 bw : Below W.heap.size W w
 sz : W.heap.size + 2 ≤ w.heap.size
theorem Rd.start (W : World) : Rd W ((W.alloc (.cells #[zs, zs, .int .i64 0] 102)).alloc (.cells #[zs, zs, .int .i64 0] 102)) zs zs (.int .i64 0) := by
 obtain ⟨V, hV⟩ : ∃ V, W.alloc (.cells #[zs, zs, .int .i64 0] 102) = V := ⟨_, rfl⟩
 have hs : V.heap.size = W.heap.size + 1 := by rw [← hV]; simp
 have h1 : Rc V W.heap.size zs zs (.int .i64 0) := by rw [← hV]; exact heap_alloc_last W _
 have b1 : Below W.heap.size W V := by rw [← hV]; exact (Below.refl _ _).alloc (Nat.le_refl _) _
 have b2 : Below V.heap.size V (V.alloc (.cells #[zs, zs, .int .i64 0] 102)) := (Below.refl _ _).alloc (Nat.le_refl _) _
 rw [hV]
 refine ⟨h1.below b2 (by omega), ?_, Aa b1 b2, by simp; omega⟩
 rw [← hs]
 exact heap_alloc_last V _
theorem Rd.step {W w w' : World} {a b c : Value} (h : Rd W w a b c) (hb : Below w.heap.size w w') : Rd W w' a b c :=
 ⟨h.lo.below hb (by have := h.sz; omega), h.hi.below hb (by have := h.sz; omega), Aa h.bw hb, Nat.le_trans h.sz hb.size⟩
theorem Rd.put0 {W w : World} {a b c : Value} (h : Rd W w a b c) (v : Value) : Rd W (w.setCell ⟨W.heap.size + 1, 0, none⟩ v) v b c :=
 ⟨h.lo.other (by omega), h.hi.set0 v, h.bw.setCell (by show W.heap.size ≤ W.heap.size + 1; omega) _, by simp only [World.setCell, Array.size_modify]; exact h.sz⟩
theorem Rd.put1 {W w : World} {a b c : Value} (h : Rd W w a b c) (v : Value) : Rd W (w.setCell ⟨W.heap.size + 1, 1, none⟩ v) a v c :=
 ⟨h.lo.other (by omega), h.hi.set1 v, h.bw.setCell (by show W.heap.size ≤ W.heap.size + 1; omega) _, by simp only [World.setCell, Array.size_modify]; exact h.sz⟩
theorem Rd.put2 {W w : World} {a b c : Value} (h : Rd W w a b c) (v : Value) : Rd W (w.setCell ⟨W.heap.size + 1, 2, none⟩ v) a b v :=
 ⟨h.lo.other (by omega), h.hi.set2 v, h.bw.setCell (by show W.heap.size ≤ W.heap.size + 1; omega) _, by simp only [World.setCell, Array.size_modify]; exact h.sz⟩
theorem Lk (s : ByteArray) (w : World) (S1 : ByteArray)
   (C1 : Hid (∀ W, Ct 96 #[.string s, .int .i64 10] (.tuple #[.string ⟨#[]⟩, .string S1]) W))
   (C2 : Hid (∀ W, Cq 100 #[.string S1, .string ⟨#[46]⟩] (.tuple #[.string S1, .bool false]) W)) :
    Cp 102 #[.string s] w (fun e w' => e = .returned (.tuple #[.agg #[.string ⟨#[]⟩, .string ⟨#[]⟩, .int .i64 0], .string ⟨#[]⟩, .bool false]) ∧ Below w.heap.size w w') := by
  have R0 := Lh (Rd.start w)
  go_enter Tryz.func102, Tryz.ntmps102
  go_wp2_with fail
  refine Bm (C1.out _) fun w1 hb1 => ?_
  have R1 := Lh (R0.out.step hb1)
  obtain ⟨c0, c1, c2, fz⟩ := R1.out.hi.cells
  have f0 := fz 0
  clear fz hb1
  go_wp2_with fail
  refine (C2.out _).mono ?_
  rintro e w2 ⟨rfl, rfl⟩
  have R2 := Lh (R1.out.put0 (.string ⟨#[]⟩))
  generalize w1.setCell ⟨w.heap.size + 1, 0, none⟩ (.string ⟨#[]⟩) = w2 at *
  clear c0 c1 c2 f0
  obtain ⟨c0, c1, c2, fz⟩ := R2.out.hi.cells
  have f0 := fz 0
  clear fz
  unfold zs at c1
  have HG := Lh (show w2.heap[w.heap.size]? = some (.cells #[.string ⟨#[]⟩, .string ⟨#[]⟩, .int .i64 0] 102 (0, 0)) from R2.out.lo)
  have HB := Lh R2.out.bw
  go_wp2_with (first | (refine wpList_store_row rfl 102 _ _ rfl w.heap.size #[.string ⟨#[]⟩, .string ⟨#[]⟩, .int .i64 0] rfl rfl 102 #[.string ⟨#[]⟩, .string ⟨#[]⟩, .int .i64 0] HG.out (by first | kernel_rfl | rfl) rfl (by first | kernel_rfl | rfl) ?_))
  exact bodyPost_ret (Bx rfl _ _ _ _ _ rfl (run_loadVar_row _ w.heap.size 102 102 _ (0, 0) _ (setRow_heap _ _ _ _ _ _ HG.out) Tryz.underlying102 rfl (by first | kernel_rfl | rfl))) rfl ⟨rfl, Bu HB.out (Nat.le_refl _) _⟩
theorem Ir (s : ByteArray) (w : World) (Wt S1 t0 Rt : ByteArray) (X : Int) (n2 : Wt.toList.isEmpty = false)
   (C1 : Hid (∀ W, Ct 96 #[.string s, .int .i64 10] (.tuple #[.string Wt, .string S1]) W))
   (C2 : Hid (∀ W, Cq 100 #[.string S1, .string ⟨#[46]⟩] (.tuple #[.string t0, .bool false]) W))
   (C3 : Hid (∀ W, Ct 134 #[.string S1] (.tuple #[.int .i64 X, .string Rt, .bool false]) W)) :
    Cp 102 #[.string s] w (fun e w' => e = .returned (.tuple #[.agg #[.string Wt, .string ⟨#[]⟩, .int .i64 0], .string S1, .bool true]) ∧ Below w.heap.size w w') := by
  have R0 := Lh (Rd.start w)
  go_enter Tryz.func102, Tryz.ntmps102
  go_wp2_with fail
  refine Bm (C1.out _) fun w1 hb1 => ?_
  have R1 := Lh (R0.out.step hb1)
  clear hb1
  obtain ⟨c0, c1, c2, fz⟩ := R1.out.hi.cells
  have f0 := fz 0
  have f1 := fz 1
  have f2 := fz 2
  clear fz
  try unfold zs at c0
  try unfold zs at c1
  go_wp2_with fail
  refine (C2.out _).mono ?_
  rintro e w2 ⟨rfl, rfl⟩
  have R2 := Lh (R1.out.put0 (.string Wt))
  generalize w1.setCell ⟨w.heap.size + 1, 0, none⟩ (.string Wt) = w2 at *
  clear c0 c1 c2 f0 f1 f2
  obtain ⟨c0, c1, c2, fz⟩ := R2.out.hi.cells
  have f0 := fz 0
  have f1 := fz 1
  have f2 := fz 2
  clear fz
  try unfold zs at c0
  try unfold zs at c1
  go_wp2_with fail
  refine Bm (C3.out _) fun w3 hb3 => ?_
  have R3 := Lh (R2.out.step hb3)
  clear hb3 c0 c1 c2 f0 f1 f2
  obtain ⟨c0, c1, c2, fz⟩ := R3.out.hi.cells
  have f0 := fz 0
  have f1 := fz 1
  have f2 := fz 2
  clear fz
  try unfold zs at c0
  try unfold zs at c1
  have HG := Lh (show w3.heap[w.heap.size]? = some (.cells #[.string ⟨#[]⟩, .string ⟨#[]⟩, .int .i64 0] 102 (0, 0)) from R3.out.lo)
  have HB := Lh R3.out.bw
  go_wp2_with (first | (refine wpList_store_row rfl 102 _ _ rfl w.heap.size #[.string Wt, .string ⟨#[]⟩, .int .i64 0] rfl rfl 102 #[.string ⟨#[]⟩, .string ⟨#[]⟩, .int .i64 0] HG.out (by first | kernel_rfl | rfl) rfl (by first | kernel_rfl | rfl) ?_))
  exact bodyPost_ret (Bx rfl _ _ _ _ _ rfl (run_loadVar_row _ w.heap.size 102 102 _ (0, 0) _ (setRow_heap _ _ _ _ _ _ HG.out) Tryz.underlying102 rfl (by first | kernel_rfl | rfl))) rfl ⟨rfl, Bu HB.out (Nat.le_refl _) _⟩
theorem I6 (s : ByteArray) (w : World) (Wt S1 t0 Rt : ByteArray) (X : Int) (n2 : Wt.toList.isEmpty = false)
   (C1 : Hid (∀ W, Ct 96 #[.string s, .int .i64 10] (.tuple #[.string Wt, .string S1]) W))
   (C2 : Hid (∀ W, Cq 100 #[.string S1, .string ⟨#[46]⟩] (.tuple #[.string t0, .bool false]) W))
   (C3 : Hid (∀ W, Ct 134 #[.string S1] (.tuple #[.int .i64 X, .string Rt, .bool true]) W)) :
    Cp 102 #[.string s] w (fun e w' => e = .returned (.tuple #[.agg #[.string Wt, .string ⟨#[]⟩, .int .i64 X], .string Rt, .bool true]) ∧ Below w.heap.size w w') := by
  have R0 := Lh (Rd.start w)
  go_enter Tryz.func102, Tryz.ntmps102
  go_wp2_with fail
  refine Bm (C1.out _) fun w1 hb1 => ?_
  have R1 := Lh (R0.out.step hb1)
  clear hb1
  obtain ⟨c0, c1, c2, fz⟩ := R1.out.hi.cells
  have f0 := fz 0
  have f1 := fz 1
  have f2 := fz 2
  clear fz
  try unfold zs at c0
  try unfold zs at c1
  go_wp2_with fail
  refine (C2.out _).mono ?_
  rintro e w2 ⟨rfl, rfl⟩
  have R2 := Lh (R1.out.put0 (.string Wt))
  generalize w1.setCell ⟨w.heap.size + 1, 0, none⟩ (.string Wt) = w2 at *
  clear c0 c1 c2 f0 f1 f2
  obtain ⟨c0, c1, c2, fz⟩ := R2.out.hi.cells
  have f0 := fz 0
  have f1 := fz 1
  have f2 := fz 2
  clear fz
  try unfold zs at c0
  try unfold zs at c1
  go_wp2_with fail
  refine Bm (C3.out _) fun w3 hb3 => ?_
  have R3 := Lh (R2.out.step hb3)
  clear hb3 c0 c1 c2 f0 f1 f2
  obtain ⟨c0, c1, c2, fz⟩ := R3.out.hi.cells
  have f0 := fz 0
  have f1 := fz 1
  have f2 := fz 2
  clear fz
  try unfold zs at c0
  try unfold zs at c1
  have HR := Lh (R3.out.put2 (.int .i64 X))
  have HG := Lh (show (w3.setCell ⟨w.heap.size + 1, 2, none⟩ (.int .i64 X)).heap[w.heap.size]? = some (.cells #[.string ⟨#[]⟩, .string ⟨#[]⟩, .int .i64 0] 102 (0, 0)) from HR.out.lo)
  have HB := Lh HR.out.bw
  obtain ⟨d0, d1, d2, _⟩ := HR.out.hi.cells
  try unfold zs at d1
  go_wp2_with (first | (refine wpList_store_row rfl 102 _ _ rfl w.heap.size #[.string Wt, .string ⟨#[]⟩, .int .i64 X] rfl rfl 102 #[.string ⟨#[]⟩, .string ⟨#[]⟩, .int .i64 0] HG.out (by first | kernel_rfl | rfl) rfl (by first | kernel_rfl | rfl) ?_))
  exact bodyPost_ret (Bx rfl _ _ _ _ _ rfl (run_loadVar_row _ w.heap.size 102 102 _ (0, 0) _ (setRow_heap _ _ _ _ _ _ HG.out) Tryz.underlying102 rfl (by first | kernel_rfl | rfl))) rfl ⟨rfl, Bu HB.out (Nat.le_refl _) _⟩
theorem H6 (s : ByteArray) (w : World) (Wt S1 S2 Bt Ft Rt : ByteArray) (X : Int) (n2 : Wt.toList.isEmpty = false)
   (C1 : Hid (∀ W, Ct 96 #[.string s, .int .i64 10] (.tuple #[.string Wt, .string S1]) W))
   (C2 : Hid (∀ W, Cq 100 #[.string S1, .string ⟨#[46]⟩] (.tuple #[.string Bt, .bool true]) W))
   (C4 : Hid (∀ W, Ct 96 #[.string Bt, .int .i64 10] (.tuple #[.string Ft, .string S2]) W))
   (C3 : Hid (∀ W, Ct 134 #[.string S2] (.tuple #[.int .i64 X, .string Rt, .bool false]) W)) :
    Cp 102 #[.string s] w (fun e w' => e = .returned (.tuple #[.agg #[.string Wt, .string Ft, .int .i64 0], .string S2, .bool true]) ∧ Below w.heap.size w w') := by
  have R0 := Lh (Rd.start w)
  go_enter Tryz.func102, Tryz.ntmps102
  go_wp2_with fail
  refine Bm (C1.out _) fun w1 hb1 => ?_
  have R1 := Lh (R0.out.step hb1)
  clear hb1
  obtain ⟨c0, c1, c2, fz⟩ := R1.out.hi.cells
  have f0 := fz 0
  have f1 := fz 1
  have f2 := fz 2
  clear fz
  try unfold zs at c0
  try unfold zs at c1
  go_wp2_with fail
  refine (C2.out _).mono ?_
  rintro e w2 ⟨rfl, rfl⟩
  have R2 := Lh (R1.out.put0 (.string Wt))
  generalize w1.setCell ⟨w.heap.size + 1, 0, none⟩ (.string Wt) = w2 at *
  clear c0 c1 c2 f0 f1 f2
  obtain ⟨c0, c1, c2, fz⟩ := R2.out.hi.cells
  have f0 := fz 0
  have f1 := fz 1
  have f2 := fz 2
  clear fz
  try unfold zs at c0
  try unfold zs at c1
  go_wp2_with fail
  refine Bm (C4.out _) fun w3 hb3 => ?_
  have R3 := Lh (R2.out.step hb3)
  clear hb3 c0 c1 c2 f0 f1 f2
  obtain ⟨c0, c1, c2, fz⟩ := R3.out.hi.cells
  have f0 := fz 0
  have f1 := fz 1
  have f2 := fz 2
  clear fz
  try unfold zs at c0
  try unfold zs at c1
  have R4 := Lh (R3.out.put1 (.string Ft))
  obtain ⟨e0, e1, e2, ez⟩ := R4.out.hi.cells
  have g0 := ez 0
  have g1 := ez 1
  have g2 := ez 2
  clear ez
  go_wp2_with fail
  refine Bm (C3.out _) fun w5 hb5 => ?_
  have R5 := Lh (R4.out.step hb5)
  clear hb5 c0 c1 c2 f0 f1 f2
  obtain ⟨c0, c1, c2, fz⟩ := R5.out.hi.cells
  have f0 := fz 0
  have f1 := fz 1
  have f2 := fz 2
  clear fz
  try unfold zs at c0
  try unfold zs at c1
  have HG := Lh (show w5.heap[w.heap.size]? = some (.cells #[.string ⟨#[]⟩, .string ⟨#[]⟩, .int .i64 0] 102 (0, 0)) from R5.out.lo)
  have HB := Lh R5.out.bw
  go_wp2_with (first | (refine wpList_store_row rfl 102 _ _ rfl w.heap.size #[.string Wt, .string Ft, .int .i64 0] rfl rfl 102 #[.string ⟨#[]⟩, .string ⟨#[]⟩, .int .i64 0] HG.out (by first | kernel_rfl | rfl) rfl (by first | kernel_rfl | rfl) ?_))
  exact bodyPost_ret (Bx rfl _ _ _ _ _ rfl (run_loadVar_row _ w.heap.size 102 102 _ (0, 0) _ (setRow_heap _ _ _ _ _ _ HG.out) Tryz.underlying102 rfl (by first | kernel_rfl | rfl))) rfl ⟨rfl, Bu HB.out (Nat.le_refl _) _⟩
theorem Iu (s : ByteArray) (w : World) (Wt S1 S2 Bt Ft Rt : ByteArray) (X : Int) (n2 : Wt.toList.isEmpty = false)
   (C1 : Hid (∀ W, Ct 96 #[.string s, .int .i64 10] (.tuple #[.string Wt, .string S1]) W))
   (C2 : Hid (∀ W, Cq 100 #[.string S1, .string ⟨#[46]⟩] (.tuple #[.string Bt, .bool true]) W))
   (C4 : Hid (∀ W, Ct 96 #[.string Bt, .int .i64 10] (.tuple #[.string Ft, .string S2]) W))
   (C3 : Hid (∀ W, Ct 134 #[.string S2] (.tuple #[.int .i64 X, .string Rt, .bool true]) W)) :
    Cp 102 #[.string s] w (fun e w' => e = .returned (.tuple #[.agg #[.string Wt, .string Ft, .int .i64 X], .string Rt, .bool true]) ∧ Below w.heap.size w w') := by
  have R0 := Lh (Rd.start w)
  go_enter Tryz.func102, Tryz.ntmps102
  go_wp2_with fail
  refine Bm (C1.out _) fun w1 hb1 => ?_
  have R1 := Lh (R0.out.step hb1)
  clear hb1
  obtain ⟨c0, c1, c2, fz⟩ := R1.out.hi.cells
  have f0 := fz 0
  have f1 := fz 1
  have f2 := fz 2
  clear fz
  try unfold zs at c0
  try unfold zs at c1
  go_wp2_with fail
  refine (C2.out _).mono ?_
  rintro e w2 ⟨rfl, rfl⟩
  have R2 := Lh (R1.out.put0 (.string Wt))
  generalize w1.setCell ⟨w.heap.size + 1, 0, none⟩ (.string Wt) = w2 at *
  clear c0 c1 c2 f0 f1 f2
  obtain ⟨c0, c1, c2, fz⟩ := R2.out.hi.cells
  have f0 := fz 0
  have f1 := fz 1
  have f2 := fz 2
  clear fz
  try unfold zs at c0
  try unfold zs at c1
  go_wp2_with fail
  refine Bm (C4.out _) fun w3 hb3 => ?_
  have R3 := Lh (R2.out.step hb3)
  clear hb3 c0 c1 c2 f0 f1 f2
  obtain ⟨c0, c1, c2, fz⟩ := R3.out.hi.cells
  have f0 := fz 0
  have f1 := fz 1
  have f2 := fz 2
  clear fz
  try unfold zs at c0
  try unfold zs at c1
  have R4 := Lh (R3.out.put1 (.string Ft))
  obtain ⟨e0, e1, e2, ez⟩ := R4.out.hi.cells
  have g0 := ez 0
  have g1 := ez 1
  have g2 := ez 2
  clear ez
  go_wp2_with fail
  refine Bm (C3.out _) fun w5 hb5 => ?_
  have R5 := Lh (R4.out.step hb5)
  clear hb5 c0 c1 c2 f0 f1 f2
  obtain ⟨c0, c1, c2, fz⟩ := R5.out.hi.cells
  have f0 := fz 0
  have f1 := fz 1
  have f2 := fz 2
  clear fz
  try unfold zs at c0
  try unfold zs at c1
  have HR := Lh (R5.out.put2 (.int .i64 X))
  have HG := Lh (show (w5.setCell ⟨w.heap.size + 1, 2, none⟩ (.int .i64 X)).heap[w.heap.size]? = some (.cells #[.string ⟨#[]⟩, .string ⟨#[]⟩, .int .i64 0] 102 (0, 0)) from HR.out.lo)
  have HB := Lh HR.out.bw
  obtain ⟨d0, d1, d2, _⟩ := HR.out.hi.cells
  try unfold zs at d1
  go_wp2_with (first | (refine wpList_store_row rfl 102 _ _ rfl w.heap.size #[.string Wt, .string Ft, .int .i64 X] rfl rfl 102 #[.string ⟨#[]⟩, .string ⟨#[]⟩, .int .i64 0] HG.out (by first | kernel_rfl | rfl) rfl (by first | kernel_rfl | rfl) ?_))
  exact bodyPost_ret (Bx rfl _ _ _ _ _ rfl (run_loadVar_row _ w.heap.size 102 102 _ (0, 0) _ (setRow_heap _ _ _ _ _ _ HG.out) Tryz.underlying102 rfl (by first | kernel_rfl | rfl))) rfl ⟨rfl, Bu HB.out (Nat.le_refl _) _⟩
theorem Ic (s : ByteArray) (w : World) (S1 S2 Bt Ft Rt : ByteArray) (X : Int) (m2 : Ft.toList.isEmpty = false)
   (C1 : Hid (∀ W, Ct 96 #[.string s, .int .i64 10] (.tuple #[.string ⟨#[]⟩, .string S1]) W))
   (C2 : Hid (∀ W, Cq 100 #[.string S1, .string ⟨#[46]⟩] (.tuple #[.string Bt, .bool true]) W))
   (C4 : Hid (∀ W, Ct 96 #[.string Bt, .int .i64 10] (.tuple #[.string Ft, .string S2]) W))
   (C3 : Hid (∀ W, Ct 134 #[.string S2] (.tuple #[.int .i64 X, .string Rt, .bool false]) W)) :
    Cp 102 #[.string s] w (fun e w' => e = .returned (.tuple #[.agg #[.string ⟨#[]⟩, .string Ft, .int .i64 0], .string S2, .bool true]) ∧ Below w.heap.size w w') := by
  have R0 := Lh (Rd.start w)
  go_enter Tryz.func102, Tryz.ntmps102
  go_wp2_with fail
  refine Bm (C1.out _) fun w1 hb1 => ?_
  have R1 := Lh (R0.out.step hb1)
  clear hb1
  obtain ⟨c0, c1, c2, fz⟩ := R1.out.hi.cells
  have f0 := fz 0
  have f1 := fz 1
  have f2 := fz 2
  clear fz
  try unfold zs at c0
  try unfold zs at c1
  go_wp2_with fail
  refine (C2.out _).mono ?_
  rintro e w2 ⟨rfl, rfl⟩
  have R2 := Lh (R1.out.put0 (.string ⟨#[]⟩))
  generalize w1.setCell ⟨w.heap.size + 1, 0, none⟩ (.string ⟨#[]⟩) = w2 at *
  clear c0 c1 c2 f0 f1 f2
  obtain ⟨c0, c1, c2, fz⟩ := R2.out.hi.cells
  have f0 := fz 0
  have f1 := fz 1
  have f2 := fz 2
  clear fz
  try unfold zs at c0
  try unfold zs at c1
  go_wp2_with fail
  refine Bm (C4.out _) fun w3 hb3 => ?_
  have R3 := Lh (R2.out.step hb3)
  clear hb3 c0 c1 c2 f0 f1 f2
  obtain ⟨c0, c1, c2, fz⟩ := R3.out.hi.cells
  have f0 := fz 0
  have f1 := fz 1
  have f2 := fz 2
  clear fz
  try unfold zs at c0
  try unfold zs at c1
  have R4 := Lh (R3.out.put1 (.string Ft))
  obtain ⟨e0, e1, e2, ez⟩ := R4.out.hi.cells
  have g0 := ez 0
  have g1 := ez 1
  have g2 := ez 2
  clear ez
  go_wp2_with fail
  refine Bm (C3.out _) fun w5 hb5 => ?_
  have R5 := Lh (R4.out.step hb5)
  clear hb5 c0 c1 c2 f0 f1 f2
  obtain ⟨c0, c1, c2, fz⟩ := R5.out.hi.cells
  have f0 := fz 0
  have f1 := fz 1
  have f2 := fz 2
  clear fz
  try unfold zs at c0
  try unfold zs at c1
  have HG := Lh (show w5.heap[w.heap.size]? = some (.cells #[.string ⟨#[]⟩, .string ⟨#[]⟩, .int .i64 0] 102 (0, 0)) from R5.out.lo)
  have HB := Lh R5.out.bw
  go_wp2_with (first | (refine wpList_store_row rfl 102 _ _ rfl w.heap.size #[.string ⟨#[]⟩, .string Ft, .int .i64 0] rfl rfl 102 #[.string ⟨#[]⟩, .string ⟨#[]⟩, .int .i64 0] HG.out (by first | kernel_rfl | rfl) rfl (by first | kernel_rfl | rfl) ?_))
  exact bodyPost_ret (Bx rfl _ _ _ _ _ rfl (run_loadVar_row _ w.heap.size 102 102 _ (0, 0) _ (setRow_heap _ _ _ _ _ _ HG.out) Tryz.underlying102 rfl (by first | kernel_rfl | rfl))) rfl ⟨rfl, Bu HB.out (Nat.le_refl _) _⟩
theorem Is (s : ByteArray) (w : World) (S1 S2 Bt Ft Rt : ByteArray) (X : Int) (m2 : Ft.toList.isEmpty = false)
   (C1 : Hid (∀ W, Ct 96 #[.string s, .int .i64 10] (.tuple #[.string ⟨#[]⟩, .string S1]) W))
   (C2 : Hid (∀ W, Cq 100 #[.string S1, .string ⟨#[46]⟩] (.tuple #[.string Bt, .bool true]) W))
   (C4 : Hid (∀ W, Ct 96 #[.string Bt, .int .i64 10] (.tuple #[.string Ft, .string S2]) W))
   (C3 : Hid (∀ W, Ct 134 #[.string S2] (.tuple #[.int .i64 X, .string Rt, .bool true]) W)) :
    Cp 102 #[.string s] w (fun e w' => e = .returned (.tuple #[.agg #[.string ⟨#[]⟩, .string Ft, .int .i64 X], .string Rt, .bool true]) ∧ Below w.heap.size w w') := by
  have R0 := Lh (Rd.start w)
  go_enter Tryz.func102, Tryz.ntmps102
  go_wp2_with fail
  refine Bm (C1.out _) fun w1 hb1 => ?_
  have R1 := Lh (R0.out.step hb1)
  clear hb1
  obtain ⟨c0, c1, c2, fz⟩ := R1.out.hi.cells
  have f0 := fz 0
  have f1 := fz 1
  have f2 := fz 2
  clear fz
  try unfold zs at c0
  try unfold zs at c1
  go_wp2_with fail
  refine (C2.out _).mono ?_
  rintro e w2 ⟨rfl, rfl⟩
  have R2 := Lh (R1.out.put0 (.string ⟨#[]⟩))
  generalize w1.setCell ⟨w.heap.size + 1, 0, none⟩ (.string ⟨#[]⟩) = w2 at *
  clear c0 c1 c2 f0 f1 f2
  obtain ⟨c0, c1, c2, fz⟩ := R2.out.hi.cells
  have f0 := fz 0
  have f1 := fz 1
  have f2 := fz 2
  clear fz
  try unfold zs at c0
  try unfold zs at c1
  go_wp2_with fail
  refine Bm (C4.out _) fun w3 hb3 => ?_
  have R3 := Lh (R2.out.step hb3)
  clear hb3 c0 c1 c2 f0 f1 f2
  obtain ⟨c0, c1, c2, fz⟩ := R3.out.hi.cells
  have f0 := fz 0
  have f1 := fz 1
  have f2 := fz 2
  clear fz
  try unfold zs at c0
  try unfold zs at c1
  have R4 := Lh (R3.out.put1 (.string Ft))
  obtain ⟨e0, e1, e2, ez⟩ := R4.out.hi.cells
  have g0 := ez 0
  have g1 := ez 1
  have g2 := ez 2
  clear ez
  go_wp2_with fail
  refine Bm (C3.out _) fun w5 hb5 => ?_
  have R5 := Lh (R4.out.step hb5)
  clear hb5 c0 c1 c2 f0 f1 f2
  obtain ⟨c0, c1, c2, fz⟩ := R5.out.hi.cells
  have f0 := fz 0
  have f1 := fz 1
  have f2 := fz 2
  clear fz
  try unfold zs at c0
  try unfold zs at c1
  have HR := Lh (R5.out.put2 (.int .i64 X))
  have HG := Lh (show (w5.setCell ⟨w.heap.size + 1, 2, none⟩ (.int .i64 X)).heap[w.heap.size]? = some (.cells #[.string ⟨#[]⟩, .string ⟨#[]⟩, .int .i64 0] 102 (0, 0)) from HR.out.lo)
  have HB := Lh HR.out.bw
  obtain ⟨d0, d1, d2, _⟩ := HR.out.hi.cells
  try unfold zs at d1
  go_wp2_with (first | (refine wpList_store_row rfl 102 _ _ rfl w.heap.size #[.string ⟨#[]⟩, .string Ft, .int .i64 X] rfl rfl 102 #[.string ⟨#[]⟩, .string ⟨#[]⟩, .int .i64 0] HG.out (by first | kernel_rfl | rfl) rfl (by first | kernel_rfl | rfl) ?_))
  exact bodyPost_ret (Bx rfl _ _ _ _ _ rfl (run_loadVar_row _ w.heap.size 102 102 _ (0, 0) _ (setRow_heap _ _ _ _ _ _ HG.out) Tryz.underlying102 rfl (by first | kernel_rfl | rfl))) rfl ⟨rfl, Bu HB.out (Nat.le_refl _) _⟩
theorem Mo (s : ByteArray) (w : World) (S1 S2 Bt : ByteArray)
   (C1 : Hid (∀ W, Ct 96 #[.string s, .int .i64 10] (.tuple #[.string ⟨#[]⟩, .string S1]) W))
   (C2 : Hid (∀ W, Cq 100 #[.string S1, .string ⟨#[46]⟩] (.tuple #[.string Bt, .bool true]) W))
   (C4 : Hid (∀ W, Ct 96 #[.string Bt, .int .i64 10] (.tuple #[.string ⟨#[]⟩, .string S2]) W)) :
    Cp 102 #[.string s] w (fun e w' => e = .returned (.tuple #[.agg #[.string ⟨#[]⟩, .string ⟨#[]⟩, .int .i64 0], .string ⟨#[]⟩, .bool false]) ∧ Below w.heap.size w w') := by
  have R0 := Lh (Rd.start w)
  go_enter Tryz.func102, Tryz.ntmps102
  go_wp2_with fail
  refine Bm (C1.out _) fun w1 hb1 => ?_
  have R1 := Lh (R0.out.step hb1)
  clear hb1
  obtain ⟨c0, c1, c2, fz⟩ := R1.out.hi.cells
  have f0 := fz 0
  have f1 := fz 1
  have f2 := fz 2
  clear fz
  try unfold zs at c0
  try unfold zs at c1
  go_wp2_with fail
  refine (C2.out _).mono ?_
  rintro e w2 ⟨rfl, rfl⟩
  have R2 := Lh (R1.out.put0 (.string ⟨#[]⟩))
  generalize w1.setCell ⟨w.heap.size + 1, 0, none⟩ (.string ⟨#[]⟩) = w2 at *
  clear c0 c1 c2 f0 f1 f2
  obtain ⟨c0, c1, c2, fz⟩ := R2.out.hi.cells
  have f0 := fz 0
  have f1 := fz 1
  have f2 := fz 2
  clear fz
  try unfold zs at c0
  try unfold zs at c1
  go_wp2_with fail
  refine Bm (C4.out _) fun w3 hb3 => ?_
  have R3 := Lh (R2.out.step hb3)
  clear hb3 c0 c1 c2 f0 f1 f2
  obtain ⟨c0, c1, c2, fz⟩ := R3.out.hi.cells
  have f0 := fz 0
  have f1 := fz 1
  have f2 := fz 2
  clear fz
  try unfold zs at c0
  try unfold zs at c1
  have HG := Lh (show w3.heap[w.heap.size]? = some (.cells #[.string ⟨#[]⟩, .string ⟨#[]⟩, .int .i64 0] 102 (0, 0)) from R3.out.lo)
  have HB := Lh R3.out.bw
  go_wp2_with (first | (refine wpList_store_row rfl 102 _ _ rfl w.heap.size #[.string ⟨#[]⟩, .string ⟨#[]⟩, .int .i64 0] rfl rfl 102 #[.string ⟨#[]⟩, .string ⟨#[]⟩, .int .i64 0] HG.out (by first | kernel_rfl | rfl) rfl (by first | kernel_rfl | rfl) ?_))
  exact bodyPost_ret (Bx rfl _ _ _ _ _ rfl (run_loadVar_row _ w.heap.size 102 102 _ (0, 0) _ (setRow_heap _ _ _ _ _ _ HG.out) Tryz.underlying102 rfl (by first | kernel_rfl | rfl))) rfl ⟨rfl, Bu HB.out (Nat.le_refl _) _⟩
end
section
theorem Aa3 (s : ByteArray) (w : World) : Ct 126 #[.string s, .string ⟨#[48]⟩] (.string (Ab (ldz (bl s)))) w := by
 have h := Tryz.strings_TrimLeft_laid s ⟨#[48]⟩ w (by decide) (fun j b hb => by
  have h1 : b ∈ ([48] : List UInt8) := List.mem_of_getElem? hb
  simp at h1
  rw [h1]
  decide)
 rw [show (⟨#[48]⟩ : ByteArray).data.toList = [48] from rfl, Aot] at h
 exact h
theorem Abu (s : ByteArray) (w : World) (hs : s.size ≤ 9223372036854775807) : Ct 135 #[.string s, .string ⟨#[48]⟩] (.string (Ab (trz (bl s)))) w := by
 have h := Tryz.strings_TrimRight_laid s ⟨#[48]⟩ w hs (by decide) (fun j b hb => by
  have h1 : b ∈ ([48] : List UInt8) := List.mem_of_getElem? hb
  simp at h1
  rw [h1]
  decide)
 rw [show (⟨#[48]⟩ : ByteArray).data.toList = [48] from rfl, Aoj] at h
 exact h
theorem Uf (s : ByteArray) (i : Nat) (h : i < s.size) : btn s i = (bl s).getD i 0 := by
 rw [List.getD_eq_getElem?_getD, C0 s i h]
 exact (Dp s i h).symm
theorem Uj (r : Nat) (s : ByteArray) : sv r s = num r (bl s) := by
 unfold sv num
 rw [By]
 exact H9 (fun i hi => by rw [Uf s i hi])
theorem Acc {r : Nat} {s : ByteArray} (h0 : bl s ≠ []) (h : ∀ c ∈ bl s, dgt c < r) : adB r s = true := by
 rw [Acg (fun i hi => by
  rw [Uf s i hi, List.getD_eq_getElem?_getD, List.getElem?_eq_getElem (by rw [By]; exact hi)]
  exact h _ (List.getElem_mem _))]
 have : 0 < (bl s).length := List.length_pos_iff.2 h0
 rw [By] at this
 exact decide_eq_true this
theorem Uw (s1 s2 g h : ByteArray) (X y P : Int) (w : World) (hs1 : s1.size + s2.size ≤ 4611686018427387903)
  (C1 : Hid (∀ W, Ct 126 #[.string (s1 ++ s2), .string ⟨#[48]⟩] (.string g) W))
  (C2 : Hid (∀ W, Ct 135 #[.string g, .string ⟨#[48]⟩] (.string h) W))
  (k1 : IntKind.i64.wrap ((g.size : Int) - (s2.size : Int)) = y) (k2 : IntKind.i64.wrap (y + X) = P)
  (t1 : h.toList.isEmpty = true) :
  Ct 103 #[.agg #[.string s1, .string s2, .int .i64 X]] (.float .f64 0) w := by
 have hs2 : ¬ 9223372036854775807 < s1.size + s2.size := by omega
 have R0 := Lh (show Rc (w.alloc (.cells #[.string s1, .string s2, .int .i64 X] 102)) w.heap.size (.string s1) (.string s2) (.int .i64 X) from heap_alloc_last w _)
 have B0 := Lh (show Below w.heap.size w (w.alloc (.cells #[.string s1, .string s2, .int .i64 X] 102)) from (Below.refl _ _).alloc (Nat.le_refl _) _)
 have S0 := Lh (show w.heap.size < (w.alloc (.cells #[.string s1, .string s2, .int .i64 X] 102)).heap.size by simp)
 clear hs1
 go_enter Tryz.func103, Tryz.ntmps103
 go_wp2_with fail
 refine Bm (C1.out _) fun w1 b1 => ?_
 have R1 := Lh (R0.out.below b1 S0.out)
 have B1 := Lh (Aa B0.out b1)
 clear b1
 obtain ⟨c0, c1, c2, _⟩ := R1.out.cells
 go_wp2_with fail
 refine Bm (C2.out _) fun w2 b2 => ?_
 have B2 := Lh (Aa B1.out b2)
 clear b2
 go_wp2
 go_ret
 exact ⟨rfl, B2.out⟩
theorem Aag (s1 s2 g h : ByteArray) (X y P : Int) (w : World) (hs1 : s1.size + s2.size ≤ 4611686018427387903)
  (C1 : Hid (∀ W, Ct 126 #[.string (s1 ++ s2), .string ⟨#[48]⟩] (.string g) W))
  (C2 : Hid (∀ W, Ct 135 #[.string g, .string ⟨#[48]⟩] (.string h) W))
  (k1 : IntKind.i64.wrap ((g.size : Int) - (s2.size : Int)) = y) (k2 : IntKind.i64.wrap (y + X) = P)
  (t1 : h.toList.isEmpty = false) (t2 : decide (P < -323) = true) :
  Ct 103 #[.agg #[.string s1, .string s2, .int .i64 X]] (.float .f64 0) w := by
 have hs2 : ¬ 9223372036854775807 < s1.size + s2.size := by omega
 have R0 := Lh (show Rc (w.alloc (.cells #[.string s1, .string s2, .int .i64 X] 102)) w.heap.size (.string s1) (.string s2) (.int .i64 X) from heap_alloc_last w _)
 have B0 := Lh (show Below w.heap.size w (w.alloc (.cells #[.string s1, .string s2, .int .i64 X] 102)) from (Below.refl _ _).alloc (Nat.le_refl _) _)
 have S0 := Lh (show w.heap.size < (w.alloc (.cells #[.string s1, .string s2, .int .i64 X] 102)).heap.size by simp)
 clear hs1
 go_enter Tryz.func103, Tryz.ntmps103
 go_wp2_with fail
 refine Bm (C1.out _) fun w1 b1 => ?_
 have R1 := Lh (R0.out.below b1 S0.out)
 have B1 := Lh (Aa B0.out b1)
 clear b1
 obtain ⟨c0, c1, c2, _⟩ := R1.out.cells
 go_wp2_with fail
 refine Bm (C2.out _) fun w2 b2 => ?_
 have B2 := Lh (Aa B1.out b2)
 clear b2
 go_wp2
 go_ret
 exact ⟨rfl, B2.out⟩
theorem Wf (s1 s2 g h : ByteArray) (X y P : Int) (w : World) (hs1 : s1.size + s2.size ≤ 4611686018427387903)
  (C1 : Hid (∀ W, Ct 126 #[.string (s1 ++ s2), .string ⟨#[48]⟩] (.string g) W))
  (C2 : Hid (∀ W, Ct 135 #[.string g, .string ⟨#[48]⟩] (.string h) W))
  (k1 : IntKind.i64.wrap ((g.size : Int) - (s2.size : Int)) = y) (k2 : IntKind.i64.wrap (y + X) = P)
  (t1 : h.toList.isEmpty = false) (t2 : decide (P < -323) = false) (t3 : decide (309 < P) = true) :
  Ct 103 #[.agg #[.string s1, .string s2, .int .i64 X]] (.float .f64 9218868437227405312) w := by
 have hs2 : ¬ 9223372036854775807 < s1.size + s2.size := by omega
 have R0 := Lh (show Rc (w.alloc (.cells #[.string s1, .string s2, .int .i64 X] 102)) w.heap.size (.string s1) (.string s2) (.int .i64 X) from heap_alloc_last w _)
 have B0 := Lh (show Below w.heap.size w (w.alloc (.cells #[.string s1, .string s2, .int .i64 X] 102)) from (Below.refl _ _).alloc (Nat.le_refl _) _)
 have S0 := Lh (show w.heap.size < (w.alloc (.cells #[.string s1, .string s2, .int .i64 X] 102)).heap.size by simp)
 clear hs1
 go_enter Tryz.func103, Tryz.ntmps103
 go_wp2_with fail
 refine Bm (C1.out _) fun w1 b1 => ?_
 have R1 := Lh (R0.out.below b1 S0.out)
 have B1 := Lh (Aa B0.out b1)
 clear b1
 obtain ⟨c0, c1, c2, _⟩ := R1.out.cells
 go_wp2_with fail
 refine Bm (C2.out _) fun w2 b2 => ?_
 have B2 := Lh (Aa B1.out b2)
 clear b2
 have C3 := Lh (fun W => Dr W)
 go_wp2_with fail
 refine Sm (C3.out _) ?_
 go_wp2
 go_ret
 exact ⟨rfl, B2.out⟩
theorem Tq (s1 s2 g h : ByteArray) (X y P : Int) (Z : Int) (m F : Nat) (w : World) (hs1 : s1.size + s2.size ≤ 4611686018427387903)
  (C1 : Hid (∀ W, Ct 126 #[.string (s1 ++ s2), .string ⟨#[48]⟩] (.string g) W))
  (C2 : Hid (∀ W, Ct 135 #[.string g, .string ⟨#[48]⟩] (.string h) W))
  (k1 : IntKind.i64.wrap ((g.size : Int) - (s2.size : Int)) = y) (k2 : IntKind.i64.wrap (y + X) = P)
  (t1 : h.toList.isEmpty = false) (t2 : decide (P < -323) = false) (t3 : decide (309 < P) = false) (t4 : decide (800 < (h.size : Int)) = false)
  (k3 : IntKind.i64.wrap (P - (h.size : Int)) = Z)
  (C3 : Hid (∀ W, Cp 130 #[.string h, .int .i64 10] W (NOk m W)))
  (C4 : Hid (∀ W A n c, NV W A n c m → Ct 136 #[.slice A n c, .int .i64 Z] (.float .f64 F) W)) :
  Ct 103 #[.agg #[.string s1, .string s2, .int .i64 X]] (.float .f64 F) w := by
 have hs2 : ¬ 9223372036854775807 < s1.size + s2.size := by omega
 have R0 := Lh (show Rc (w.alloc (.cells #[.string s1, .string s2, .int .i64 X] 102)) w.heap.size (.string s1) (.string s2) (.int .i64 X) from heap_alloc_last w _)
 have B0 := Lh (show Below w.heap.size w (w.alloc (.cells #[.string s1, .string s2, .int .i64 X] 102)) from (Below.refl _ _).alloc (Nat.le_refl _) _)
 have S0 := Lh (show w.heap.size < (w.alloc (.cells #[.string s1, .string s2, .int .i64 X] 102)).heap.size by simp)
 clear hs1
 go_enter Tryz.func103, Tryz.ntmps103
 go_wp2_with fail
 refine Bm (C1.out _) fun w1 b1 => ?_
 have R1 := Lh (R0.out.below b1 S0.out)
 have B1 := Lh (Aa B0.out b1)
 clear b1
 obtain ⟨c0, c1, c2, _⟩ := R1.out.cells
 go_wp2_with fail
 refine Bm (C2.out _) fun w2 b2 => ?_
 have B2 := Lh (Aa B1.out b2)
 clear b2
 go_wp2_with fail
 refine (C3.out _).mono ?_
 rintro e w3 ⟨A, n, c, rfl, g3, b3⟩
 have G3 := Lh g3
 have B3 := Lh (Aa B2.out b3)
 clear g3 b3
 go_wp2_with fail
 refine Bm (C4.out _ _ _ _ G3.out) fun w4 b4 => ?_
 have B4 := Lh (Aa B3.out b4)
 clear b4
 go_wp2
 go_ret
 exact ⟨rfl, B4.out⟩
theorem Wu (s1 s2 g h : ByteArray) (X y P : Int) (Z : Int) (m F : Nat) (w : World) (hs1 : s1.size + s2.size ≤ 4611686018427387903)
  (C1 : Hid (∀ W, Ct 126 #[.string (s1 ++ s2), .string ⟨#[48]⟩] (.string g) W))
  (C2 : Hid (∀ W, Ct 135 #[.string g, .string ⟨#[48]⟩] (.string h) W))
  (k1 : IntKind.i64.wrap ((g.size : Int) - (s2.size : Int)) = y) (k2 : IntKind.i64.wrap (y + X) = P)
  (t1 : h.toList.isEmpty = false) (t2 : decide (P < -323) = false) (t3 : decide (309 < P) = false) (t4 : decide (800 < (h.size : Int)) = true) (t5 : (800 : Int) ≤ (h.size : Int)) (t6 : (h.extract 0 800).size = 800)
  (k3 : IntKind.i64.wrap (P - 801) = Z)
  (C3 : Hid (∀ W, Cp 130 #[.string (h.extract 0 800 ++ ⟨#[49]⟩), .int .i64 10] W (NOk m W)))
  (C4 : Hid (∀ W A n c, NV W A n c m → Ct 136 #[.slice A n c, .int .i64 Z] (.float .f64 F) W)) :
  Ct 103 #[.agg #[.string s1, .string s2, .int .i64 X]] (.float .f64 F) w := by
 have hs2 : ¬ 9223372036854775807 < s1.size + s2.size := by omega
 have R0 := Lh (show Rc (w.alloc (.cells #[.string s1, .string s2, .int .i64 X] 102)) w.heap.size (.string s1) (.string s2) (.int .i64 X) from heap_alloc_last w _)
 have B0 := Lh (show Below w.heap.size w (w.alloc (.cells #[.string s1, .string s2, .int .i64 X] 102)) from (Below.refl _ _).alloc (Nat.le_refl _) _)
 have S0 := Lh (show w.heap.size < (w.alloc (.cells #[.string s1, .string s2, .int .i64 X] 102)).heap.size by simp)
 clear hs1
 go_enter Tryz.func103, Tryz.ntmps103
 go_wp2_with fail
 refine Bm (C1.out _) fun w1 b1 => ?_
 have R1 := Lh (R0.out.below b1 S0.out)
 have B1 := Lh (Aa B0.out b1)
 clear b1
 obtain ⟨c0, c1, c2, _⟩ := R1.out.cells
 go_wp2_with fail
 refine Bm (C2.out _) fun w2 b2 => ?_
 have B2 := Lh (Aa B1.out b2)
 clear b2
 go_wp2_with fail
 refine (C3.out _).mono ?_
 rintro e w3 ⟨A, n, c, rfl, g3, b3⟩
 have G3 := Lh g3
 have B3 := Lh (Aa B2.out b3)
 clear g3 b3
 go_wp2_with fail
 refine Bm (C4.out _ _ _ _ G3.out) fun w4 b4 => ?_
 have B4 := Lh (Aa B3.out b4)
 clear b4
 go_wp2
 go_ret
 exact ⟨rfl, B4.out⟩
end
section
theorem Ff (w : World) (o : Obj) : Below w.heap.size w (w.alloc o) := (Below.refl _ _).alloc (Nat.le_refl _) _
theorem Q9 (H L M down unit D h : Nat) (hE : Bool) (w : World) (hD : H - down = D) (hd : down ≤ H) (hH : H < 9223372036854775808) (hU : unit < 9223372036854775808) (hu : unit / 2 = h) (hne : D ≠ h) :
  Ct 204 #[.agg #[.int .u64 (H : Nat), .bool hE, .int .u64 (L : Nat), .int .u64 (M : Nat)], .int .u64 (down : Nat), .int .u64 (unit : Nat)] (.bool (decide ((D : Int) < (h : Int)))) w := by
 have k1 : IntKind.u64.wrap ((H : Int) - (down : Int)) = (D : Int) := by rw [IntKind.wrap_u64]; omega
 have k2 : (unit : Int) / 2 = (h : Int) := by omega
 have k3 : IntKind.u64.wrap (h : Int) = (h : Int) := by rw [IntKind.wrap_u64]; omega
 have t1 : ((D : Int) != (h : Int)) = true := by rw [bne_iff_ne]; omega
 clear hD hd hH hu hne hU
 go_enter Tryz.func204, Tryz.ntmps204
 go_wp2
 go_ret
 exact ⟨by simp, Ff _ _⟩
theorem S8 (H L M down unit D h : Nat) (w : World) (hD : H - down = D) (hd : down ≤ H) (hU : unit < 9223372036854775808) (hu : unit / 2 = h) (hne : D = h) :
  Ct 204 #[.agg #[.int .u64 (H : Nat), .bool false, .int .u64 (L : Nat), .int .u64 (M : Nat)], .int .u64 (down : Nat), .int .u64 (unit : Nat)] (.bool false) w := by
 have k1 : IntKind.u64.wrap ((H : Int) - (down : Int)) = (D : Int) := by rw [IntKind.wrap_u64]; omega
 have k2 : (unit : Int) / 2 = (h : Int) := by omega
 have k3 : IntKind.u64.wrap (h : Int) = (h : Int) := by rw [IntKind.wrap_u64]; omega
 have t1 : ((D : Int) != (h : Int)) = false := by rw [bne_eq_false_iff_eq]; omega
 clear hD hd hu hne hU
 go_enter Tryz.func204, Tryz.ntmps204
 go_wp2
 go_ret
 exact ⟨rfl, Ff _ _⟩
theorem Qs (H L M down unit D h q : Nat) (w : World) (hD : H - down = D) (hd : down ≤ H) (hH : H < 9223372036854775808) (hU : unit < 9223372036854775808) (hu : unit / 2 = h) (hne : D = h) (h0 : 0 < unit) (hq : down / unit = q) :
  Ct 204 #[.agg #[.int .u64 (H : Nat), .bool true, .int .u64 (L : Nat), .int .u64 (M : Nat)], .int .u64 (down : Nat), .int .u64 (unit : Nat)] (.bool ((q : Int) % 2 == 0)) w := by
 have k1 : IntKind.u64.wrap ((H : Int) - (down : Int)) = (D : Int) := by rw [IntKind.wrap_u64]; omega
 have k2 : (unit : Int) / 2 = (h : Int) := by omega
 have k3 : IntKind.u64.wrap (h : Int) = (h : Int) := by rw [IntKind.wrap_u64]; omega
 have t1 : ((D : Int) != (h : Int)) = false := by rw [bne_eq_false_iff_eq]; omega
 have k4 : (down : Int) / (unit : Int) = (q : Int) := by rw [← hq]; rfl
 have k5 : IntKind.u64.wrap (q : Int) = (q : Int) := by
  have : q ≤ down := by rw [← hq]; exact Nat.div_le_self _ _
  rw [IntKind.wrap_u64]
  omega
 have k6 : (0 : Int) < (unit : Int) := by omega
 have k7 : ¬ (unit : Int) = 0 := by omega
 clear hD hd hu hne hU h0 hq hH
 go_enter Tryz.func204, Tryz.ntmps204
 go_wp2
 go_ret
 exact ⟨rfl, Ff _ _⟩
end
section
theorem Aip (H L M unit dn up : Nat) (hE : Bool) (w : World) (h0 : 0 < unit) (hd : H - H % unit = dn) (hu : dn + unit = up) (hl : up < 9223372036854775808) (g1 : L ≤ dn) (g2 : up ≤ M)
  (CN : Hid (∀ W, Ct 204 #[.agg #[.int .u64 (H : Nat), .bool hE, .int .u64 (L : Nat), .int .u64 (M : Nat)], .int .u64 (dn : Nat), .int .u64 (unit : Nat)] (.bool true) W)) :
  Ct 148 #[.agg #[.int .u64 (H : Nat), .bool hE, .int .u64 (L : Nat), .int .u64 (M : Nat)], .int .u64 (unit : Nat)] (.tuple #[.int .u64 (dn : Nat), .bool true]) w := by
 obtain ⟨r, hr⟩ : ∃ r, H % unit = r := ⟨_, rfl⟩
 have hrH : r ≤ H := by rw [← hr]; exact Nat.mod_le _ _
 have hru : r < unit := by rw [← hr]; exact Nat.mod_lt _ h0
 rw [hr] at hd
 have k0 := Lh (show (H : Int) % (unit : Int) = (r : Int) by rw [← hr]; rfl)
 have k2 := Lh (show IntKind.u64.wrap ((H : Int) - (r : Int)) = (dn : Int) by rw [IntKind.wrap_u64]; omega)
 have k3 := Lh (show IntKind.u64.wrap ((dn : Int) + (unit : Int)) = (up : Int) by rw [IntKind.wrap_u64]; omega)
 have k6 : (0 : Int) < (unit : Int) := by omega
 have k7 : ¬ (unit : Int) = 0 := by omega
 have t1 := Lh (show decide (L ≤ dn) = true by first | exact decide_eq_true (by omega) | exact decide_eq_false (by omega))
 have t2 := Lh (show decide (up ≤ M) = true by first | exact decide_eq_true (by omega) | exact decide_eq_false (by omega))
 have B0 := Lh (Ff w (.cells #[.int .u64 (H : Nat), .bool hE, .int .u64 (L : Nat), .int .u64 (M : Nat)] 139))
 clear h0 hd hu hl g1 g2 hr hrH hru
 go_enter Tryz.func148, Tryz.ntmps148
 go_wp2
 go_quiet (fail)
 rw [k0.out, k2.out]
 have k3' := k3.out
 go_wp2
 clear k3'
 go_quiet (fail)
 have t1' := t1.out
 have t2' := t2.out
 have BW := Lh (fun q => Ad B0.out q)
 go_wp2_with fail
 refine Bm (CN.out _) fun w1 b1 => ?_
 have B1 := Lh (Aa (BW.out _) b1)
 clear b1
 go_wp2
 go_ret2
 exact ⟨rfl, B1.out⟩
theorem Agg (H L M unit dn up : Nat) (hE : Bool) (w : World) (h0 : 0 < unit) (hd : H - H % unit = dn) (hu : dn + unit = up) (hl : up < 9223372036854775808) (g1 : L ≤ dn) (g2 : up ≤ M)
  (CN : Hid (∀ W, Ct 204 #[.agg #[.int .u64 (H : Nat), .bool hE, .int .u64 (L : Nat), .int .u64 (M : Nat)], .int .u64 (dn : Nat), .int .u64 (unit : Nat)] (.bool false) W)) :
  Ct 148 #[.agg #[.int .u64 (H : Nat), .bool hE, .int .u64 (L : Nat), .int .u64 (M : Nat)], .int .u64 (unit : Nat)] (.tuple #[.int .u64 (up : Nat), .bool true]) w := by
 obtain ⟨r, hr⟩ : ∃ r, H % unit = r := ⟨_, rfl⟩
 have hrH : r ≤ H := by rw [← hr]; exact Nat.mod_le _ _
 have hru : r < unit := by rw [← hr]; exact Nat.mod_lt _ h0
 rw [hr] at hd
 have k0 := Lh (show (H : Int) % (unit : Int) = (r : Int) by rw [← hr]; rfl)
 have k2 := Lh (show IntKind.u64.wrap ((H : Int) - (r : Int)) = (dn : Int) by rw [IntKind.wrap_u64]; omega)
 have k3 := Lh (show IntKind.u64.wrap ((dn : Int) + (unit : Int)) = (up : Int) by rw [IntKind.wrap_u64]; omega)
 have k6 : (0 : Int) < (unit : Int) := by omega
 have k7 : ¬ (unit : Int) = 0 := by omega
 have t1 := Lh (show decide (L ≤ dn) = true by first | exact decide_eq_true (by omega) | exact decide_eq_false (by omega))
 have t2 := Lh (show decide (up ≤ M) = true by first | exact decide_eq_true (by omega) | exact decide_eq_false (by omega))
 have B0 := Lh (Ff w (.cells #[.int .u64 (H : Nat), .bool hE, .int .u64 (L : Nat), .int .u64 (M : Nat)] 139))
 clear h0 hd hu hl g1 g2 hr hrH hru
 go_enter Tryz.func148, Tryz.ntmps148
 go_wp2
 go_quiet (fail)
 rw [k0.out, k2.out]
 have k3' := k3.out
 go_wp2
 clear k3'
 go_quiet (fail)
 have t1' := t1.out
 have t2' := t2.out
 have BW := Lh (fun q => Ad B0.out q)
 go_wp2_with fail
 refine Bm (CN.out _) fun w1 b1 => ?_
 have B1 := Lh (Aa (BW.out _) b1)
 clear b1
 go_wp2
 go_ret2
 exact ⟨rfl, B1.out⟩
theorem Zs (H L M unit dn up : Nat) (hE : Bool) (w : World) (h0 : 0 < unit) (hd : H - H % unit = dn) (hu : dn + unit = up) (hl : up < 9223372036854775808) (g1 : L ≤ dn) (g2 : ¬ up ≤ M) :
  Ct 148 #[.agg #[.int .u64 (H : Nat), .bool hE, .int .u64 (L : Nat), .int .u64 (M : Nat)], .int .u64 (unit : Nat)] (.tuple #[.int .u64 (dn : Nat), .bool true]) w := by
 obtain ⟨r, hr⟩ : ∃ r, H % unit = r := ⟨_, rfl⟩
 have hrH : r ≤ H := by rw [← hr]; exact Nat.mod_le _ _
 have hru : r < unit := by rw [← hr]; exact Nat.mod_lt _ h0
 rw [hr] at hd
 have k0 := Lh (show (H : Int) % (unit : Int) = (r : Int) by rw [← hr]; rfl)
 have k2 := Lh (show IntKind.u64.wrap ((H : Int) - (r : Int)) = (dn : Int) by rw [IntKind.wrap_u64]; omega)
 have k3 := Lh (show IntKind.u64.wrap ((dn : Int) + (unit : Int)) = (up : Int) by rw [IntKind.wrap_u64]; omega)
 have k6 : (0 : Int) < (unit : Int) := by omega
 have k7 : ¬ (unit : Int) = 0 := by omega
 have t1 := Lh (show decide (L ≤ dn) = true by first | exact decide_eq_true (by omega) | exact decide_eq_false (by omega))
 have t2 := Lh (show decide (up ≤ M) = false by first | exact decide_eq_true (by omega) | exact decide_eq_false (by omega))
 have B0 := Lh (Ff w (.cells #[.int .u64 (H : Nat), .bool hE, .int .u64 (L : Nat), .int .u64 (M : Nat)] 139))
 clear h0 hd hu hl g1 g2 hr hrH hru
 go_enter Tryz.func148, Tryz.ntmps148
 go_wp2
 go_quiet (fail)
 rw [k0.out, k2.out]
 have k3' := k3.out
 go_wp2
 clear k3'
 go_quiet (fail)
 have t1' := t1.out
 have t2' := t2.out
 have BW := Lh (fun q => Ad B0.out q)
 go_wp2
 go_ret2
 exact ⟨rfl, BW.out _⟩
theorem Ah0 (H L M unit dn up : Nat) (hE : Bool) (w : World) (h0 : 0 < unit) (hd : H - H % unit = dn) (hu : dn + unit = up) (hl : up < 9223372036854775808) (g1 : ¬ L ≤ dn) (g2 : up ≤ M) :
  Ct 148 #[.agg #[.int .u64 (H : Nat), .bool hE, .int .u64 (L : Nat), .int .u64 (M : Nat)], .int .u64 (unit : Nat)] (.tuple #[.int .u64 (up : Nat), .bool true]) w := by
 obtain ⟨r, hr⟩ : ∃ r, H % unit = r := ⟨_, rfl⟩
 have hrH : r ≤ H := by rw [← hr]; exact Nat.mod_le _ _
 have hru : r < unit := by rw [← hr]; exact Nat.mod_lt _ h0
 rw [hr] at hd
 have k0 := Lh (show (H : Int) % (unit : Int) = (r : Int) by rw [← hr]; rfl)
 have k2 := Lh (show IntKind.u64.wrap ((H : Int) - (r : Int)) = (dn : Int) by rw [IntKind.wrap_u64]; omega)
 have k3 := Lh (show IntKind.u64.wrap ((dn : Int) + (unit : Int)) = (up : Int) by rw [IntKind.wrap_u64]; omega)
 have k6 : (0 : Int) < (unit : Int) := by omega
 have k7 : ¬ (unit : Int) = 0 := by omega
 have t1 := Lh (show decide (L ≤ dn) = false by first | exact decide_eq_true (by omega) | exact decide_eq_false (by omega))
 have t2 := Lh (show decide (up ≤ M) = true by first | exact decide_eq_true (by omega) | exact decide_eq_false (by omega))
 have B0 := Lh (Ff w (.cells #[.int .u64 (H : Nat), .bool hE, .int .u64 (L : Nat), .int .u64 (M : Nat)] 139))
 clear h0 hd hu hl g1 g2 hr hrH hru
 go_enter Tryz.func148, Tryz.ntmps148
 go_wp2
 go_quiet (fail)
 rw [k0.out, k2.out]
 have k3' := k3.out
 go_wp2
 clear k3'
 go_quiet (fail)
 have t1' := t1.out
 have t2' := t2.out
 have BW := Lh (fun q => Ad B0.out q)
 go_wp2
 go_ret2
 exact ⟨rfl, BW.out _⟩
theorem Aaf (H L M unit dn up : Nat) (hE : Bool) (w : World) (h0 : 0 < unit) (hd : H - H % unit = dn) (hu : dn + unit = up) (hl : up < 9223372036854775808) (g1 : ¬ L ≤ dn) (g2 : ¬ up ≤ M) :
  Ct 148 #[.agg #[.int .u64 (H : Nat), .bool hE, .int .u64 (L : Nat), .int .u64 (M : Nat)], .int .u64 (unit : Nat)] (.tuple #[.int .u64 (up : Nat), .bool false]) w := by
 obtain ⟨r, hr⟩ : ∃ r, H % unit = r := ⟨_, rfl⟩
 have hrH : r ≤ H := by rw [← hr]; exact Nat.mod_le _ _
 have hru : r < unit := by rw [← hr]; exact Nat.mod_lt _ h0
 rw [hr] at hd
 have k0 := Lh (show (H : Int) % (unit : Int) = (r : Int) by rw [← hr]; rfl)
 have k2 := Lh (show IntKind.u64.wrap ((H : Int) - (r : Int)) = (dn : Int) by rw [IntKind.wrap_u64]; omega)
 have k3 := Lh (show IntKind.u64.wrap ((dn : Int) + (unit : Int)) = (up : Int) by rw [IntKind.wrap_u64]; omega)
 have k6 : (0 : Int) < (unit : Int) := by omega
 have k7 : ¬ (unit : Int) = 0 := by omega
 have t1 := Lh (show decide (L ≤ dn) = false by first | exact decide_eq_true (by omega) | exact decide_eq_false (by omega))
 have t2 := Lh (show decide (up ≤ M) = false by first | exact decide_eq_true (by omega) | exact decide_eq_false (by omega))
 have B0 := Lh (Ff w (.cells #[.int .u64 (H : Nat), .bool hE, .int .u64 (L : Nat), .int .u64 (M : Nat)] 139))
 clear h0 hd hu hl g1 g2 hr hrH hru
 go_enter Tryz.func148, Tryz.ntmps148
 go_wp2
 go_quiet (fail)
 rw [k0.out, k2.out]
 have k3' := k3.out
 go_wp2
 clear k3'
 go_quiet (fail)
 have t1' := t1.out
 have t2' := t2.out
 have BW := Lh (fun q => Ad B0.out q)
 go_wp2
 go_ret2
 exact ⟨rfl, BW.out _⟩
end
section
theorem Aap (u : Nat) (w : World) (h : u < 100) : Ct 231 #[.int .u64 u, .int .i64 10] (.string ⟨(Lib.decDigits u).toArray⟩) w := by
 have t1 : (u : Int) < 100 := by omega
 have t2 : (u : Int) < 9223372036854775808 := by omega
 go_enter Tryz.func231, Tryz.ntmps231
 go_wp2_with (go_at_call 248; refine (Tryz.internal_strconv_small u h _).mono ?_; rintro e w' ⟨rfl, rfl⟩)
 go_ret
 exact ⟨rfl, Below.refl _ _⟩
open Go.Sort in
theorem Aj4 (u : Nat) (w : World) (h : 100 ≤ u) (hu64 : u < 18446744073709551616) (htab : Lib.TabIs Tryz.prog w "internal/strconv.uint64pow10" .u64 Lib.pow10Tab) :
  Ct 231 #[.int .u64 u, .int .i64 10] (.string ⟨(Lib.decDigits u).toArray⟩) w := by
 have hu1 : 1 ≤ u := by omega
 have hnd20 : Lib.nDigits u ≤ 20 := by have := Lib.numDigits_eq u hu1 hu64; split at this <;> omega
 have t1 : ¬ (u : Int) < 100 := by omega
 have hal : Tryz.prog.arrayLen 229 = 24 := by kernel_rfl
 have hsl1 : ∀ W, (Instr.sliceAt 229 (.pointer (some ⟨w.heap.size, 0, none⟩)) none (some (.int .i64 (Lib.nDigits u : Int))) none).run Tryz.prog W = .ok (.slice (some ⟨w.heap.size, 0, none⟩) (Lib.nDigits u) 24) W := fun W => by
  rw [run_sliceAt_array_h W 229 ⟨w.heap.size, 0, none⟩ (by simp [Program.arrayLen, Program.elem, Tryz.underlying229]) .i64 (Lib.nDigits u : Int) (by omega) (by rw [hal]; omega)]
  go_simp
 have hH0 := Lib.holds_zero0 w 229 (Lib.nDigits u) (by omega)
 have hfmt := Tryz.internal_strconv_formatBase10 w.heap.size 0 24 u (Array.replicate (Lib.nDigits u) 0) (w.alloc (.cells Lib.zeros24 229)) hH0 (by rw [Array.size_replicate]; exact Lib.lt_pow_nDigits u) hu64 (by rw [Array.size_replicate]; omega)
 rw [Array.size_replicate] at hfmt
 have HH0 := Lh hH0
 clear hH0 hal h
 go_enter Tryz.func231, Tryz.ntmps231
 go_wp2_with (first
  | (go_at_call 249; refine (Tryz.internal_strconv_numDigits u hu1 hu64 _ (Lib.tabIs_alloc htab _)).mono ?_; rintro e w' ⟨rfl, rfl⟩))
 go_at_call 250
 refine hfmt.mono ?_
 rintro e w' ⟨rfl, k, v', dk, rfl, hF⟩
 have hcv : (convert 66 9 (.slice (some ⟨w.heap.size, 0, none⟩) (Lib.nDigits u) 24)).run Tryz.prog ((putRow (fun (b : UInt8) => Value.int .u8 (b.toNat : Int)) (w.alloc (.cells Lib.zeros24 229)) w.heap.size 0 dk).drewN k) = .ok (.string ⟨(Lib.decDigits u).toArray⟩) ((putRow (fun (b : UInt8) => Value.int .u8 (b.toNat : Int)) (w.alloc (.cells Lib.zeros24 229)) w.heap.size 0 dk).drewN k) := by
  have h := run_convert_bytes_back (P := Tryz.prog) ((putRow (fun (b : UInt8) => Value.int .u8 (b.toNat : Int)) (w.alloc (.cells Lib.zeros24 229)) w.heap.size 0 dk).drewN k) 66 9 5 ⟨w.heap.size, 0, none⟩ 24 (Lib.decDigits u) Tryz.underlying66 Tryz.underlying5 Tryz.underlying9 (fun j hj => by
   rw [Lib.row_is_numeral hF j hj, Lib.add_plain, World.cell?_drewN]
   exact cell?_putRow (fun (b : UInt8) => Value.int .u8 (b.toNat : Int)) _ w.heap.size 0 _ dk HH0.out (by rw [hF.size, Array.size_replicate]) j (by rw [hF.size]; rw [Lib.decDigits_length] at hj; exact hj))
  rw [Lib.decDigits_length] at h
  exact h
 go_wp2
 go_ret
 obtain ⟨os, eo⟩ := Lib.fin_at w (.cells Lib.zeros24 229) dk k 0
 refine ⟨rfl, ?_⟩
 have hb := Lib.below_grow w.heap.size w (Nat.le_refl _) k os
 rw [← eo] at hb
 exact hb
theorem Ahn (u : Nat) (w : World) (hu : u < 18446744073709551616) (htab : Lib.TabIs Tryz.prog w "internal/strconv.uint64pow10" .u64 Lib.pow10Tab) :
  Ct 197 #[.int .u64 u, .int .i64 10] (.string (Ab (dL u))) w := by
 have C : Hid (∀ W, W = w → Ct 231 #[.int .u64 u, .int .i64 10] (.string ⟨(Lib.decDigits u).toArray⟩) W) := Lh (fun W hW => by
  subst hW
  rcases Nat.lt_or_ge u 100 with h | h
  ·exact Aap u W h
  ·exact Aj4 u W h hu htab)
 have he : (⟨(Lib.decDigits u).toArray⟩ : ByteArray) = Ab (dL u) := Hk rfl
 rw [← he]
 clear he htab hu
 go_enter Tryz.func197, Tryz.ntmps197
 go_wp2_with fail
 refine Bm (C.out _ rfl) fun w1 b1 => ?_
 go_wp2
 go_ret
 exact ⟨rfl, b1⟩
end
section
theorem Ya (H L M unit dn : Nat) (hE : Bool) (w : World) (h0 : 0 < unit) (hd : H - H % unit = dn) (hH : H < 9223372036854775808) (hU : unit < 9223372036854775808) :
  Ct 204 #[.agg #[.int .u64 (H : Nat), .bool hE, .int .u64 (L : Nat), .int .u64 (M : Nat)], .int .u64 (dn : Nat), .int .u64 (unit : Nat)] (.bool (decide (H % unit < unit / 2 ∨ (H % unit = unit / 2 ∧ hE = true ∧ dn / unit % 2 = 0)))) w := by
 have hle := Nat.mod_le H unit
 have hD : H - dn = H % unit := by omega
 have hdn : dn ≤ H := by omega
 by_cases h1 : H % unit = unit / 2
 ·cases hE
  ·refine (S8 H L M dn unit _ _ w hD hdn hU rfl h1).mono ?_
   rintro e w' ⟨rfl, hb⟩
   exact ⟨by rw [decide_eq_false (by rw [h1]; simp)], hb⟩
  ·refine (Qs H L M dn unit _ _ _ w hD hdn hH hU rfl h1 h0 rfl).mono ?_
   rintro e w' ⟨rfl, hb⟩
   refine ⟨congrArg (fun b => Ending.returned (.bool b)) ?_, hb⟩
   rw [Bool.eq_iff_iff, beq_iff_eq, decide_eq_true_iff]
   generalize dn / unit = q
   constructor
   ·intro h
    exact .inr ⟨h1, rfl, by omega⟩
   ·rintro (h | ⟨_, _, h⟩)
    ·omega
    ·omega
 ·refine (Q9 H L M dn unit _ _ hE w hD hdn hH hU rfl h1).mono ?_
  rintro e w' ⟨rfl, hb⟩
  refine ⟨congrArg (fun b => Ending.returned (.bool b)) ?_, hb⟩
  rw [Bool.eq_iff_iff, decide_eq_true_iff, decide_eq_true_iff]
  generalize H % unit = a at *
  generalize unit / 2 = b at *
  omega
def Amu (o : Option Nat) (d : Nat) : Value := .tuple #[.int .u64 ((o.getD d : Nat) : Int), .bool o.isSome]
theorem Ac0 (H L M unit : Nat) (hE : Bool) (w : World) (h0 : 0 < unit) (hl : H + unit < 9223372036854775808) :
  Ct 148 #[.agg #[.int .u64 (H : Nat), .bool hE, .int .u64 (L : Nat), .int .u64 (M : Nat)], .int .u64 (unit : Nat)] (Amu (pcn H hE L M unit) (H - H % unit + unit)) w := by
 obtain ⟨dn, hd⟩ : ∃ dn, H - H % unit = dn := ⟨_, rfl⟩
 obtain ⟨up, hu⟩ : ∃ up, dn + unit = up := ⟨_, rfl⟩
 have hup : up < 9223372036854775808 := by omega
 have CN := fun W => Ya H L M unit dn hE W h0 hd (by omega) (by omega)
 unfold pcn
 rw [hd, hu]
 by_cases g1 : L ≤ dn
 ·by_cases g2 : up ≤ M
  ·by_cases g3 : H % unit < unit / 2 ∨ (H % unit = unit / 2 ∧ hE = true ∧ dn / unit % 2 = 0)
   ·rw [if_pos ⟨g1, .inr g3⟩]
    rw [decide_eq_true g3] at CN
    exact Aip H L M unit dn up hE w h0 hd hu hup g1 g2 (Lh CN)
   ·rw [if_neg (fun h => h.2.elim (fun h => h g2) g3), if_pos g2]
    rw [decide_eq_false g3] at CN
    exact Agg H L M unit dn up hE w h0 hd hu hup g1 g2 (Lh CN)
  ·rw [if_pos ⟨g1, .inl g2⟩]
   exact Zs H L M unit dn up hE w h0 hd hu hup g1 g2
 ·rw [if_neg (fun h => g1 h.1)]
  by_cases g2 : up ≤ M
  ·rw [if_pos g2]
   exact Ah0 H L M unit dn up hE w h0 hd hu hup g1 g2
  ·rw [if_neg g2]
   exact Aaf H L M unit dn up hE w h0 hd hu hup g1 g2
abbrev Tab10 (w : World) : Prop := Lib.TabIs Tryz.prog w "internal/strconv.uint64pow10" .u64 Lib.pow10Tab
theorem Tab10.on {w w' : World} (h : Tab10 w) (hb : Below w.heap.size w w') : Tab10 w' := (Lib.tabBelow_of_tabIs h) w' hb
theorem Qp (u n : Nat) (ten x : Int) (D T : ByteArray) (w : World) (hn : D.size = n) (hx : wrap64 ((n : Int) + ten) = x)
  (C1 : Hid (∀ W, W = w → Ct 197 #[.int .u64 u, .int .i64 10] (.string D) W))
  (C2 : Hid (∀ W, Ct 135 #[.string D, .string ⟨#[48]⟩] (.string T) W)) :
  Ct 144 #[.int .u64 u, .int .i64 ten] (.tuple #[.string T, .int .i64 x]) w := by
 go_enter Tryz.func144, Tryz.ntmps144
 go_wp2_with fail
 refine Bm (C1.out _ rfl) fun w1 b1 => ?_
 have B1 := Lh b1
 clear b1
 go_wp2_with fail
 refine Bm (C2.out _) fun w2 b2 => ?_
 have B2 := Lh (Aa B1.out b2)
 clear b2
 go_wp2
 go_ret2
 exact ⟨congrArg (fun z => Ending.returned (.tuple #[.string T, .int .i64 z])) hx, B2.out⟩
theorem Jr (u : Nat) (ten : Int) (w : World) (hu : u < 18446744073709551616) (h1 : -1000 ≤ ten) (h2 : ten ≤ 1000) (ht : Tab10 w) :
  Ct 144 #[.int .u64 u, .int .i64 ten] (.tuple #[.string (Ab (trz (dL u))), .int .i64 ((dL u).length + ten)]) w := by
 have hl : (dL u).length ≤ 20 := by
  rcases Nat.eq_zero_or_pos u with h | h
  ·rw [h, Ei (by omega)]; simp
  ·have h3 : 10 ^ ((dL u).length - 1) < 10 ^ 20 := Nat.lt_of_le_of_lt (Aa1 h) (by omega)
   have := O6 h3
   omega
 have hb : bl (Ab (dL u)) = dL u := Ak fun c hc => by have := Bs.1 (P6 u c hc); omega
 have C2 := fun W => Abu (Ab (dL u)) W (by rw [Ah]; omega)
 rw [hb] at C2
 exact Qp u (dL u).length ten _ _ _ w (Ah _) (by unfold wrap64; omega) (Lh fun W h => by subst h; exact Ahn u W hu ht) (Lh C2)
end
section
theorem Wy : ∀ c : Nat, (Lib.repeatL [48] c).map UInt8.toNat = List.replicate c 48
 | 0 => rfl
 | c + 1 => by
  rw [List.replicate_succ, ← Wy c]
  rfl
theorem Lt (c : Nat) (w : World) (hc : c ≤ 140737488355328) : Ct 118 #[.string ⟨#[48]⟩, .int .i64 c] (.string (Ab (List.replicate c 48))) w := by
 have h := Tryz.strings_Repeat ⟨#[48]⟩ c w (by omega) (by show 1 * c ≤ _; omega)
 have e : (⟨(Lib.repeatL (⟨#[48]⟩ : ByteArray).data.toList c).toArray⟩ : ByteArray) = Ab (List.replicate c 48) := Hk (Wy c)
 rw [e] at h
 exact h
def ptL (l : List Nat) (last : Nat) : List Nat :=
 if last = 0 then l else (List.replicate (last + 1 - l.length) 48 ++ l).take (last + 1 - l.length + l.length - last) ++ 46 :: (List.replicate (last + 1 - l.length) 48 ++ l).drop (last + 1 - l.length + l.length - last)
theorem Qf (s : ByteArray) (w : World) : Cq 119 #[.string s, .int .i64 0] (.string s) w := by
 go_enter Tryz.func119, Tryz.ntmps119
 go_wp2
 go_ret
 exact ⟨rfl, rfl⟩
theorem Qv (s Z E F : ByteArray) (N M z last at' : Nat) (w : World) (h0 : 0 < last) (hlast : last ≤ 1000) (hN : s.size = N) (hN2 : N ≤ 1000000) (hz : max ((last : Int) + 1 - (N : Int)) 0 = (z : Int)) (hZ : Z.size = z) (hE : Z ++ s = E) (hM : E.size = M) (hzM : z + N = M)
  (hat : M - last = at') (hlM : last < M) (hF : Hid (E.extract 0 at' ++ ⟨#[46]⟩ ++ E.extract at' M = F))
  (CR : Hid (∀ W, Ct 118 #[.string ⟨#[48]⟩, .int .i64 z] (.string Z) W)) :
  Ct 119 #[.string s, .int .i64 last] (.string F) w := by
 have t0 : ((last : Int) == 0) = false := by rw [beq_eq_false_iff_ne]; omega
 have hs1 : ¬ 9223372036854775807 < Z.size + s.size := by omega
 have k1 : (at' : Int) ≤ (M : Int) := by omega
 have k2 : (0 : Int) ≤ (at' : Int) := by omega
 have k3 : (M : Int) - (last : Int) = (at' : Int) := by omega
 have k4 : (M : Int) ≤ 2000000 := by omega
 go_enter Tryz.func119, Tryz.ntmps119
 go_wp2_with fail
 refine Bm (CR.out _) fun w1 b1 => ?_
 have B1 := Lh b1
 clear b1
 go_wp2_with fail
 clear hE hN hN2 hz hZ hs1 hlast
 go_quiet (fail)
 go_wp2
 go_ret
 exact ⟨congrArg (fun z => Ending.returned (.string z)) hF.out, Ad B1.out _⟩
theorem Ab7 : (⟨#[46]⟩ : ByteArray) = Ab [46] := rfl
theorem Alt (l : List Nat) (last : Nat) (h : last ≠ 0) : (ptL l last).length = max (last + 1) l.length + 1 := by
 unfold ptL
 rw [if_neg h]
 simp
 omega
theorem Tu {l : List Nat} {z : Nat} (h : ∀ c ∈ l, c < 256) : ∀ c ∈ List.replicate z 48 ++ l, c < 256 := by
 intro c hc
 rw [List.mem_append, List.mem_replicate] at hc
 rcases hc with ⟨_, rfl⟩ | hc
 ·omega
 ·exact h c hc
theorem So (l : List Nat) (last : Nat) (w : World) (hl : ∀ c ∈ l, c < 256) (hn : l.length ≤ 100000) (hlast : last ≤ 1000) :
  Ct 119 #[.string (Ab l), .int .i64 last] (.string (Ab (ptL l last))) w := by
 rcases Nat.eq_zero_or_pos last with h0 | h0
 ·subst h0
  refine Sm (Qf (Ab l) w) ?_
  exact ⟨rfl, Below.refl _ _⟩
 ·obtain ⟨z, hz⟩ : ∃ z, last + 1 - l.length = z := ⟨_, rfl⟩
  have hE : Ab (List.replicate z 48) ++ Ab l = Ab (List.replicate z 48 ++ l) := Bc _ _
  have hb := Ak (Tu (z := z) hl)
  have hM : (Ab (List.replicate z 48 ++ l)).size = z + l.length := by rw [Ah, List.length_append, List.length_replicate]
  refine Qv (Ab l) (Ab (List.replicate z 48)) _ _ l.length (z + l.length) z last _ w h0 hlast (Ah _) (by omega) (by omega) (by rw [Ah, List.length_replicate]) hE hM rfl rfl (by omega) (Lh ?_) (Lh fun W => Lt z W (by omega))
  rw [Fb, show z + l.length = (Ab (List.replicate z 48 ++ l)).size from hM.symm, Ge, hb, Ab7, Bc, Bc, hM]
  unfold ptL
  rw [if_neg (by omega), hz, List.append_assoc, List.singleton_append]
def mnL (l : List Nat) : List Nat := if l.length ≤ 1 then l else l.take 1 ++ 46 :: l.drop 1
def sgL (e : Int) : List Nat := if e < 0 then [101, 45] else [101, 43]
def scL (l : List Nat) (e : Int) : List Nat := mnL l ++ sgL e ++ dL e.natAbs
theorem Afb (k : Nat) (w : World) (hk : k ≤ 9223372036854775807) (ht : Tab10 w) : Ct 149 #[.int .i64 k] (.string (Ab (dL k))) w := by
 refine (Tryz.strconv_Itoa (k : Int) (by omega) (by omega) w ht).mono ?_
 rintro e w' ⟨rfl, a, os, rfl⟩
 refine ⟨?_, Lib.below_grow _ _ (Nat.le_refl _) _ _⟩
 rw [Lib.itoa_nonneg]
 exact congrArg (fun z => Ending.returned (.string z)) (Hk rfl)
theorem Pj (s Y G I F : ByteArray) (N k : Nat) (E : Int) (w : World) (hN : s.size = N) (hk : k ≤ 100000) (hE : E = (k : Int)) (hN1 : N = 1)
  (hY : Hid (s = Y)) (hYs : Hid (Y.size ≤ 1000001)) (hG : Hid (Y ++ ⟨#[101, 43]⟩ = G)) (hGs : Hid (G.size ≤ 1000003)) (hIs : Hid (I.size ≤ 100)) (hF : Hid (G ++ I = F))
  (CI : Hid (∀ W, Below w.heap.size w W → Ct 149 #[.int .i64 k] (.string I) W)) :
  Ct 117 #[.string s, .int .i64 E] (.string F) w := by
 subst hE
 have t0 : ¬ (k : Int) < 0 := by omega
 have t1 : decide ((1 : Int) < (N : Int)) = false := decide_eq_false (by omega)
 have g1 : ¬ 9223372036854775807 < N + 2 := by omega
 have G1 := hG.out
 clear hN1
 have hY' := hY.out
 subst hY'
 go_enter Tryz.func117, Tryz.ntmps117
 have B1 := Lh (Below.refl w.heap.size w)
 have g2 : ¬ 9223372036854775807 < G.size + I.size := by have := hGs.out; have := hIs.out; omega
 have F1 := hF.out
 go_wp2_with fail
 refine Bm (CI.out _ B1.out) fun w2 b2 => ?_
 have B2 := Lh (Aa B1.out b2)
 clear b2
 go_wp2
 go_ret
 exact ⟨rfl, B2.out⟩
theorem Ok (s Y G I F : ByteArray) (N k : Nat) (E : Int) (w : World) (hN : s.size = N) (hN2 : N ≤ 1000000) (hk : k ≤ 100000) (hE : E = (k : Int)) (hN1 : 1 < N)
  (hY : Hid (s.extract 0 1 ++ ⟨#[46]⟩ ++ s.extract 1 N = Y)) (hYs : Hid (Y.size ≤ 1000001)) (hG : Hid (Y ++ ⟨#[101, 43]⟩ = G)) (hGs : Hid (G.size ≤ 1000003)) (hIs : Hid (I.size ≤ 100)) (hF : Hid (G ++ I = F))
  (CI : Hid (∀ W, Below w.heap.size w W → Ct 149 #[.int .i64 k] (.string I) W)) :
  Ct 117 #[.string s, .int .i64 E] (.string F) w := by
 subst hE
 have t0 : ¬ (k : Int) < 0 := by omega
 have t1 : (1 : Int) < (N : Int) := by omega
 have k4 : (N : Int) ≤ 1000000 := by omega
 clear hN1 hN2 
 go_enter Tryz.func117, Tryz.ntmps117
 go_wp2
 go_quiet (fail)
 have hY' := hY.out
 rw [hY']
 clear hY'
 rename_i nq
 have B1 := Lh (Ad (Below.refl w.heap.size w) nq)
 have g1 : ¬ 9223372036854775807 < Y.size + 2 := by have := hYs.out; omega
 have g2 : ¬ 9223372036854775807 < G.size + I.size := by have := hGs.out; have := hIs.out; omega
 have G2 := hG.out
 have F1 := hF.out
 go_wp2_with fail
 refine Bm (CI.out _ B1.out) fun w2 b2 => ?_
 have B2 := Lh (Aa B1.out b2)
 clear b2
 go_wp2
 go_ret
 exact ⟨rfl, B2.out⟩
theorem Ph (s Y G I F : ByteArray) (N k : Nat) (E : Int) (w : World) (hN : s.size = N) (hk : k ≤ 100000) (hE : -E = (k : Int)) (h0 : 0 < k) (hN1 : N = 1)
  (hY : Hid (s = Y)) (hYs : Hid (Y.size ≤ 1000001)) (hG : Hid (Y ++ ⟨#[101, 45]⟩ = G)) (hGs : Hid (G.size ≤ 1000003)) (hIs : Hid (I.size ≤ 100)) (hF : Hid (G ++ I = F))
  (CI : Hid (∀ W, Below w.heap.size w W → Ct 149 #[.int .i64 k] (.string I) W)) :
  Ct 117 #[.string s, .int .i64 E] (.string F) w := by
 have t0 : E < 0 := by omega
 have t3 : -100000 ≤ E := by omega
 have t1 : decide ((1 : Int) < (N : Int)) = false := decide_eq_false (by omega)
 have g1 : ¬ 9223372036854775807 < N + 2 := by omega
 have G1 := hG.out
 clear hN1 h0
 have hY' := hY.out
 subst hY'
 go_enter Tryz.func117, Tryz.ntmps117
 have B1 := Lh (Below.refl w.heap.size w)
 have g2 : ¬ 9223372036854775807 < G.size + I.size := by have := hGs.out; have := hIs.out; omega
 have F1 := hF.out
 go_wp2_with fail
 refine Bm (CI.out _ B1.out) fun w2 b2 => ?_
 have B2 := Lh (Aa B1.out b2)
 clear b2
 go_wp2
 go_ret
 exact ⟨rfl, B2.out⟩
theorem Oy (s Y G I F : ByteArray) (N k : Nat) (E : Int) (w : World) (hN : s.size = N) (hN2 : N ≤ 1000000) (hk : k ≤ 100000) (hE : -E = (k : Int)) (h0 : 0 < k) (hN1 : 1 < N)
  (hY : Hid (s.extract 0 1 ++ ⟨#[46]⟩ ++ s.extract 1 N = Y)) (hYs : Hid (Y.size ≤ 1000001)) (hG : Hid (Y ++ ⟨#[101, 45]⟩ = G)) (hGs : Hid (G.size ≤ 1000003)) (hIs : Hid (I.size ≤ 100)) (hF : Hid (G ++ I = F))
  (CI : Hid (∀ W, Below w.heap.size w W → Ct 149 #[.int .i64 k] (.string I) W)) :
  Ct 117 #[.string s, .int .i64 E] (.string F) w := by
 have t0 : E < 0 := by omega
 have t3 : -100000 ≤ E := by omega
 have t1 : (1 : Int) < (N : Int) := by omega
 have k4 : (N : Int) ≤ 1000000 := by omega
 clear hN1 hN2 h0
 go_enter Tryz.func117, Tryz.ntmps117
 go_wp2
 go_quiet (fail)
 have hY' := hY.out
 rw [hY']
 clear hY'
 rename_i nq
 have B1 := Lh (Ad (Below.refl w.heap.size w) nq)
 have g1 : ¬ 9223372036854775807 < Y.size + 2 := by have := hYs.out; omega
 have g2 : ¬ 9223372036854775807 < G.size + I.size := by have := hGs.out; have := hIs.out; omega
 have G2 := hG.out
 have F1 := hF.out
 go_wp2_with fail
 refine Bm (CI.out _ B1.out) fun w2 b2 => ?_
 have B2 := Lh (Aa B1.out b2)
 clear b2
 go_wp2
 go_ret
 exact ⟨rfl, B2.out⟩
theorem Amw {l : List Nat} (hl : ∀ c ∈ l, c < 256) : ∀ c ∈ mnL l, c < 256 := by
 intro c hc
 unfold mnL at hc
 split at hc
 ·exact hl c hc
 ·rw [List.mem_append, List.mem_cons] at hc
  rcases hc with hc | rfl | hc
  ·exact hl c (List.mem_of_mem_take hc)
  ·omega
  ·exact hl c (List.mem_of_mem_drop hc)
theorem Tw (l : List Nat) : (mnL l).length ≤ l.length + 1 := by
 unfold mnL
 split
 ·omega
 ·simp
  omega
theorem Aia {n k : Nat} (h : n < 10 ^ k) (hk : 0 < k) : (dL n).length ≤ k := by
 rcases Nat.eq_zero_or_pos n with h0 | h0
 ·rw [h0, Ei (by omega)]
  simp
  omega
 ·have := O6 (Nat.lt_of_le_of_lt (Aa1 h0) h)
  omega
theorem Mp (l : List Nat) (E : Int) (w : World) (hl : ∀ c ∈ l, c < 256) (hn0 : 1 ≤ l.length) (hn : l.length ≤ 1000000) (h1 : -100000 ≤ E) (h2 : E ≤ 100000) (ht : Tab10 w) :
  Ct 117 #[.string (Ab l), .int .i64 E] (.string (Ab (scL l E))) w := by
 obtain ⟨k, hk⟩ : ∃ k, E.natAbs = k := ⟨_, rfl⟩
 have hI : (Ab (dL k)).size ≤ 100 := by
  rw [Ah]
  exact Nat.le_trans (Aia (k := 6) (by omega) (by omega)) (by omega)
 have hY : (Ab (mnL l)).size ≤ 1000001 := by rw [Ah]; have := Tw l; omega
 have hG : (Ab (mnL l ++ sgL E)).size ≤ 1000003 := by
  rw [Ah, List.length_append]
  have := Tw l
  have : (sgL E).length = 2 := by unfold sgL; split <;> rfl
  omega
 have hF : Ab (mnL l ++ sgL E) ++ Ab (dL k) = Ab (scL l E) := by rw [Bc, ← hk]; rfl
 have CI := Lh (fun W (hW : Below w.heap.size w W) => Afb k W (by omega) (ht.on hW))
 have hb := Ak hl
 have hsz := Ah l
 have hYY : ¬ l.length ≤ 1 → (Ab l).extract 0 1 ++ ⟨#[46]⟩ ++ (Ab l).extract 1 l.length = Ab (mnL l) := by
  intro h
  rw [Fb, ← hsz, Ge, hb, Ab7, Bc, Bc]
  unfold mnL
  rw [if_neg h, List.append_assoc, List.singleton_append]
 have hY1 : l.length ≤ 1 → Ab l = Ab (mnL l) := by
  intro h
  unfold mnL
  rw [if_pos h]
 by_cases hE : E < 0
 ·have hs : Ab (mnL l) ++ (⟨#[101, 45]⟩ : ByteArray) = Ab (mnL l ++ sgL E) := by
   unfold sgL
   rw [if_pos hE, ← Bc]
   rfl
  by_cases hL : l.length ≤ 1
  ·exact Ph _ _ _ _ _ l.length k E w hsz (by omega) (by omega) (by omega) (by omega) (Lh (hY1 hL)) (Lh hY) (Lh hs) (Lh hG) (Lh hI) (Lh hF) CI
  ·exact Oy _ _ _ _ _ l.length k E w hsz hn (by omega) (by omega) (by omega) (by omega) (Lh (hYY hL)) (Lh hY) (Lh hs) (Lh hG) (Lh hI) (Lh hF) CI
 ·have hs : Ab (mnL l) ++ (⟨#[101, 43]⟩ : ByteArray) = Ab (mnL l ++ sgL E) := by
   unfold sgL
   rw [if_neg hE, ← Bc]
   rfl
  by_cases hL : l.length ≤ 1
  ·exact Pj _ _ _ _ _ l.length k E w hsz (by omega) (by omega) (by omega) (Lh (hY1 hL)) (Lh hY) (Lh hs) (Lh hG) (Lh hI) (Lh hF) CI
  ·exact Ok _ _ _ _ _ l.length k E w hsz hn (by omega) (by omega) (by omega) (Lh (hYY hL)) (Lh hY) (Lh hs) (Lh hG) (Lh hI) (Lh hF) CI
end
section
theorem Ail (s : Bool) (n d : Nat) : Ieee.Toward.zero.cut s n d = n / 2 ^ d := by
 unfold Ieee.Toward.cut
 simp only
 rw [Nat.one_shiftLeft]
 show n / 2 ^ min d (n.log2 + 2) + 0 = _
 rw [Nat.add_zero]
 by_cases hm : d ≤ n.log2 + 2
 ·rw [Nat.min_eq_left hm]
 ·rw [Nat.min_eq_right (by omega)]
  have hlt : n < 2 ^ (n.log2 + 2) := by
   rcases Nat.eq_zero_or_pos n with h0 | h0
   ·rw [h0]; exact Nat.two_pow_pos _
   ·have := (Dc n h0).2
    have h9 : 2 ^ (n.log2 + 1) ≤ 2 ^ (n.log2 + 2) := Nat.pow_le_pow_right (by omega) (by omega)
    omega
  have hlt2 : n < 2 ^ d := Nat.lt_of_lt_of_le hlt (Nat.pow_le_pow_right (by omega) (by omega))
  rw [Nat.div_eq_of_lt hlt, Nat.div_eq_of_lt hlt2]
theorem Aea {r : Nat} (hr : r < 9218868437227405312) : (FloatKind.f64.decode r).toInt .zero = some ((Ac r / big : Nat) : Int) := by
 obtain ⟨K, hK, hb⟩ := Lz
 obtain ⟨m, e, h1, h2, h3⟩ := Pc hr
 rw [show FloatKind.f64.decode r = Ieee.double.read r from rfl, h1]
 unfold Ieee.Datum.toInt Ieee.Datum.integral
 simp only [Ail, Im, Nat.pow_zero, Nat.mul_one]
 have hq : (m <<< e.toNat) / 2 ^ (-e).toNat = Ac r / big := by
  rw [hb]
  have hA : Ac r * 2 ^ (-e).toNat = (m <<< e.toNat) * 2 ^ K := by
   rw [h3, Nat.shiftLeft_eq, Nat.mul_assoc, Nat.mul_assoc, ← Nat.pow_add, ← Nat.pow_add, show (e + 1074).toNat + (-e).toNat = e.toNat + K by omega]
  rw [← Nat.mul_div_mul_right (m <<< e.toNat) (2 ^ (-e).toNat) (Nat.two_pow_pos K), ← hA, Nat.mul_comm (2 ^ (-e).toNat), Nat.mul_div_mul_right _ _ (Nat.two_pow_pos _)]
 rw [hq]
 rfl
theorem Af8 {x T : Nat} (hx : x < 9218868437227405312) (hT : Ac x / big = T) (h : T < 9223372036854775808) (W : World) : (convert 22 40 (.float .f64 x)).run Tryz.prog W = .ok (.int .u64 (T : Int)) W := by
 refine run_convert_float_int W 22 40 .f64 .u64 _ _ (by kernel_rfl) (by kernel_rfl) ?_
 unfold floatToIntVal
 rw [Aea hx, hT]
 simp only
 have m1 : IntKind.u64.min = 0 := rfl
 have m2 : IntKind.u64.max = 18446744073709551615 := rfl
 rw [if_pos (by rw [m1, m2]; omega)]
theorem Ha {x : Nat} (h : x ≤ 9218868437227405312) : Fl x = (x : Int) ∧ Bq x = x := by
 have h1 : Bq x = x := by unfold Bq; omega
 have h2 : Cd x = false := by unfold Cd; rw [show x / 9223372036854775808 % 2 = 0 by omega]; rfl
 refine ⟨?_, h1⟩
 unfold Fl
 rw [h2, h1]
 rfl
theorem O2 {x y : Nat} (hx : x ≤ 9218868437227405312) (hy : y ≤ 9218868437227405312) : (FloatKind.f64.format.order x y == some .lt) = decide (x < y) := by
 obtain ⟨a1, a2⟩ := Ha hx
 obtain ⟨b1, b2⟩ := Ha hy
 rw [show FloatKind.f64.format.order x y = Ieee.double.order x y from rfl, E8 (by omega) (by omega), a1, b1, Bool.eq_iff_iff, beq_iff_eq, decide_eq_true_iff]
 rw [Option.some.injEq, Int.compare_eq_lt]
 omega
theorem Ja {x y : Nat} (hx : x ≤ 9218868437227405312) (hy : y ≤ 9218868437227405312) : (FloatKind.f64.format.order x y == some .eq) = decide (x = y) := by
 obtain ⟨a1, a2⟩ := Ha hx
 obtain ⟨b1, b2⟩ := Ha hy
 rw [show FloatKind.f64.format.order x y = Ieee.double.order x y from rfl, E8 (by omega) (by omega), a1, b1, Bool.eq_iff_iff, beq_iff_eq, decide_eq_true_iff]
 rw [Option.some.injEq, Int.compare_eq_eq]
 omega
theorem Ai5 {x : Nat} (h : x < 4845873199050653696) : Ac x / big < 9007199254740992 := by
 obtain ⟨K, hK, hb⟩ := Lz
 obtain ⟨J, hJ⟩ : ∃ J : Nat, J = 1075 := ⟨_, rfl⟩
 have h2 := Ax 4503599627370496 J (by omega) (by omega)
 rw [hJ, show 1075 * 4503599627370496 + 4503599627370496 = 4845873199050653696 from rfl, ← hJ] at h2
 have h1 := Ey.2 h
 rw [Nat.div_lt_iff_lt_mul Fo, hb]
 rw [h2, show J = 1 + K by omega, Nat.pow_add, ← Nat.mul_assoc] at h1
 exact h1
theorem Vi {x T : Nat} (hx : x < 9218868437227405312) (hT : T < 9007199254740992) : (FloatKind.f64.format.order x (fl T) == some .eq) = decide (Ac x = T * big) := by
 obtain ⟨K, hK, hb⟩ := Lz
 obtain ⟨f1, f2⟩ := Nb hT hK
 rw [Ja (by omega) (by omega), hb, ← f1]
 refine decide_eq_decide.2 ⟨fun h => by rw [h], fun h => Hr h⟩
end
section
theorem Gk {w : World} {A : Option Addr} {n c m : Nat} (t : Int) (hA : NV w A n c m) (hm : bln m ≤ 6000) (ht1 : -2000 ≤ t) (ht : t ≤ 2000) :
  Cp 186 #[.slice A n c, .int .i64 t] w (NRet (m * 5 ^ t.toNat) w) := by
 have hp := Hs t.toNat
 obtain ⟨k, hk⟩ : ∃ k, t.toNat = k := ⟨_, rfl⟩
 rw [hk] at hp ⊢
 have C1 := Lh (fun W => Ao0 5 k W (by omega) (by omega) (by omega))
 have C2 := Lh (fun W C k2 d (h : NV W C k2 d (5 ^ k)) (g : NV W A n c m) => Ao3 g h (by omega) (by omega))
 have H := Lh hA
 have e0 : max t 0 = (k : Int) := by omega
 clear hA hp hk hm ht1 ht
 go_enter Tryz.func186, Tryz.ntmps186
 go_wp2_with fail
 refine (C1.out _).mono ?_
 rintro e w1 ⟨A1, n1, c1, rfl, g1, b1⟩
 have G1 := Lh g1
 have G0 := Lh (H.out.step b1)
 have B1 := Lh b1
 clear g1 b1
 go_wp2_with fail
 refine (C2.out _ _ _ _ G1.out G0.out).mono ?_
 rintro e w2 ⟨A2, n2, c2, rfl, g2, b2⟩
 have G2 := Lh g2
 have B2 := Lh b2
 clear g2 b2
 go_wp2
 go_ret
 exact ⟨A2, n2, c2, rfl, G2.out, Aa B1.out B2.out⟩
def Alp (a b : Nat) (w : World) (e : Ending) (w' : World) : Prop := ∃ A n c, e = .returned (.tuple #[.slice A n c, .bool (decide (a % b = 0))]) ∧ NV w' A n c (a / b) ∧ Below w.heap.size w w'
theorem Akc {v n : Nat} (h : (wds v).length = n) : ((n : Int) == 0) = decide (v = 0) := by
 by_cases h0 : v = 0
 ·rw [h0] at h
  have : n = 0 := by rw [← h]; rfl
  rw [this, h0]; rfl
 ·have h1 : (wds v) ≠ [] := by
   intro e
   have := Ae v
   rw [e] at this
   exact h0 this.symm
  have h2 := List.length_pos_iff.2 h1
  rw [decide_eq_false h0, beq_eq_false_iff_ne]
  omega
theorem Oz {w : World} {A C : Option Addr} {n c m d a b : Nat} (t : Int) (hA : NV w A n c a) (hC : NV w C m d b) (ha : bln a ≤ 6000) (hb : bln b ≤ 6000) (h0 : 0 < b) (ht1 : -8000 ≤ t) (ht : t ≤ 8000) :
  Cp 188 #[.slice A n c, .slice C m d, .int .i64 t] w (Alp (a * 2 ^ t.toNat) (b * 2 ^ (-t).toNat) w) := by
 have hp1 := Jv t.toNat
 have hp2 := Jv (-t).toNat
 have hm1 := Fq a (2 ^ t.toNat)
 have hm2 := Fq b (2 ^ (-t).toNat)
 have h00 : 0 < b * 2 ^ (-t).toNat := Nat.mul_pos h0 (Az _)
 obtain ⟨x, hx⟩ : ∃ x, t.toNat = x := ⟨_, rfl⟩
 obtain ⟨y, hy⟩ : ∃ y, (-t).toNat = y := ⟨_, rfl⟩
 rw [hx] at hp1 hm1 ⊢
 rw [hy] at hp2 hm2 h00 ⊢
 have C1 := Lh (fun W (h : NV W A n c a) => Anc h x (by omega))
 have C2 := Lh (fun W (h : NV W C m d b) => Anc h y (by omega))
 obtain ⟨P, hP⟩ : ∃ P, a * 2 ^ x = P := ⟨_, rfl⟩
 obtain ⟨Q, hQ⟩ : ∃ Q, b * 2 ^ y = Q := ⟨_, rfl⟩
 rw [hP] at C1 hm1 ⊢
 rw [hQ] at C2 hm2 h00 ⊢
 have C3 := Lh (fun W A1 n1 c1 A2 n2 c2 (h : NV W A1 n1 c1 P) (g : NV W A2 n2 c2 Q) => Aoz h g (by omega) (by omega) h00)
 have HA := Lh hA
 have HC := Lh hC
 have e0 : max t 0 = (x : Int) := by omega
 have e1 : max (-t) 0 = (y : Int) := by omega
 have e2 : IntKind.i64.wrap (-t) = -t := IntWalk.i64_in _ (by omega)
 clear hA hC ha hb h0 ht1 ht hp1 hp2 hm1 hm2 hx hy hP hQ
 go_enter Tryz.func188, Tryz.ntmps188
 go_wp2_with fail
 refine (C1.out _ HA.out).mono ?_
 rintro e w1 ⟨A1, n1, c1, rfl, g1, b1⟩
 have G1 := Lh g1
 have GC := Lh (HC.out.step b1)
 have B1 := Lh b1
 clear g1 b1
 go_wp2_with fail
 refine (C2.out _ GC.out).mono ?_
 rintro e w2 ⟨A2, n2, c2, rfl, g2, b2⟩
 have G2 := Lh g2
 have G1' := Lh (G1.out.step b2)
 have B2 := Lh (Aa B1.out b2)
 clear g2 b2
 go_wp2_with fail
 refine (C3.out _ _ _ _ _ _ _ G1'.out G2.out).mono ?_
 rintro e w3 ⟨A3, n3, c3, A4, n4, c4, rfl, g3, g4, b3⟩
 have G3 := Lh g3
 have B3 := Lh (Aa B2.out b3)
 have HZ := Lh (Akc g4.len)
 clear g3 g4 b3
 go_wp2
 go_ret2
 exact ⟨A3, n3, c3, by rw [← HZ.out]; rfl, G3.out, B3.out⟩
end
section
theorem T8 {w : World} {A : Option Addr} {n c m T B : Nat} {two ten t : Int} {Q : World → Ending → World → Prop} (hA : NV w A n c m)
  (C1 : Hid (∀ W, NV W A n c m → Cp 186 #[.slice A n c, .int .i64 ten] W (NRet T W)))
  (C3 : Hid (∀ W A1 n1 c1, NV W A1 n1 c1 1 → Cp 186 #[.slice A1 n1 c1, .int .i64 (-ten)] W (NRet B W)))
  (C6 : Hid (∀ W A1 n1 c1 A2 n2 c2, NV W A1 n1 c1 T → NV W A2 n2 c2 B → Cp 188 #[.slice A1 n1 c1, .slice A2 n2 c2, .int .i64 t] W fun e w' => ∃ v b, e = .returned (.tuple #[v, .bool b]) ∧ Q W e w'))
  (k1 : IntKind.i64.wrap (-ten) = -ten) (k2 : IntKind.i64.wrap (two + ten) = t) :
  Cp 200 #[.slice A n c, .int .i64 two, .int .i64 ten] w fun e w' => ∃ W, Q W e w' ∧ Below w.heap.size w W := by
 have C2 := Lh (fun W => nof 1 (by omega) W)
 have HA := Lh hA
 clear hA
 go_enter Tryz.func200, Tryz.ntmps200
 go_wp2_with fail
 refine (C1.out _ HA.out).mono ?_
 rintro e w1 ⟨A1, n1, c1, rfl, g1, b1⟩
 have G1 := Lh g1
 have B1 := Lh b1
 clear g1 b1
 go_wp2_with fail
 refine (C2.out _).mono ?_
 rintro e w2 ⟨A2, n2, c2, rfl, g2, b2⟩
 have G2 := Lh g2
 have G1' := Lh (G1.out.step b2)
 have B2 := Lh (Aa B1.out b2)
 clear g2 b2
 go_wp2_with fail
 refine (C3.out _ _ _ _ G2.out).mono ?_
 rintro e w3 ⟨A3, n3, c3, rfl, g3, b3⟩
 have G3 := Lh g3
 have G1'' := Lh (G1'.out.step b3)
 have B3 := Lh (Aa B2.out b3)
 clear g3 b3
 go_wp2_with fail
 refine (C6.out _ _ _ _ _ _ _ G1''.out G3.out).mono ?_
 rintro e w4 ⟨v, b, rfl, q4⟩
 have Q4 := Lh q4
 clear q4
 go_wp2
 go_ret2
 exact ⟨_, Q4.out, B3.out⟩
def scA (m : Nat) (two ten : Int) : Nat := m * 5 ^ ten.toNat * 2 ^ (two + ten).toNat
def scB (two ten : Int) : Nat := 5 ^ (-ten).toNat * 2 ^ (-(two + ten)).toNat
theorem Ach (two ten : Int) : 0 < scB two ten := Nat.mul_pos (Nat.pow_pos (by omega)) (Az _)
theorem Lq {w : World} {A : Option Addr} {n c m : Nat} (two ten : Int) (hA : NV w A n c m) (hm : bln m ≤ 2000) (h1 : -1000 ≤ ten) (h2 : ten ≤ 1000) (h3 : -3000 ≤ two) (h4 : two ≤ 3000) :
  Cp 200 #[.slice A n c, .int .i64 two, .int .i64 ten] w (Alp (scA m two ten) (scB two ten) w) := by
 have f1 := Hs ten.toNat
 have f2 := Hs (-ten).toNat
 have g1 := Fq m (5 ^ ten.toNat)
 have p2 : 0 < 5 ^ (-ten).toNat := Nat.pow_pos (by omega)
 have C1 := Lh (fun W (h : NV W A n c m) => Gk ten h (by omega) (by omega) (by omega))
 have C3 : Hid (∀ W A1 n1 c1, NV W A1 n1 c1 1 → Cp 186 #[.slice A1 n1 c1, .int .i64 (-ten)] W (NRet (5 ^ (-ten).toNat) W)) := Lh (fun W A1 n1 c1 h => by
  have := Gk (-ten) h (by rw [show bln 1 = 1 by decide]; omega) (by omega) (by omega)
  rw [Nat.one_mul] at this
  exact this)
 have C6 : Hid (∀ W A1 n1 c1 A2 n2 c2, NV W A1 n1 c1 (m * 5 ^ ten.toNat) → NV W A2 n2 c2 (5 ^ (-ten).toNat) → Cp 188 #[.slice A1 n1 c1, .slice A2 n2 c2, .int .i64 (two + ten)] W fun e w' => ∃ v b, e = .returned (.tuple #[v, .bool b]) ∧ Alp (scA m two ten) (scB two ten) W e w') := Lh (fun W A1 n1 c1 A2 n2 c2 h g => (Oz (two + ten) h g (by omega) (by omega) p2 (by omega) (by omega)).mono (by
  rintro e w' ⟨A3, n3, c3, rfl, hv, hb⟩
  exact ⟨_, _, rfl, A3, n3, c3, rfl, hv, hb⟩))
 refine (T8 hA C1 C3 C6 (IntWalk.i64_in _ (by omega)) (IntWalk.i64_in _ (by omega))).mono ?_
 rintro e w' ⟨W, ⟨A3, n3, c3, rfl, hv, hb⟩, hw⟩
 exact ⟨A3, n3, c3, rfl, hv, Aa hw hb⟩
end
section
theorem Aox (m : Nat) (two n : Int) : scB two (-n) ≤ scA m two (-n) ↔ Fk n (m * 2 ^ two.toNat) (2 ^ (-two).toNat) := by
 unfold Fk scA scB
 obtain ⟨a, ha⟩ : ∃ a, two.toNat = a := ⟨_, rfl⟩
 obtain ⟨b, hb⟩ : ∃ b, (-two).toNat = b := ⟨_, rfl⟩
 obtain ⟨c, hc⟩ : ∃ c, n.toNat = c := ⟨_, rfl⟩
 obtain ⟨d, hd⟩ : ∃ d, (-n).toNat = d := ⟨_, rfl⟩
 obtain ⟨p, hp⟩ : ∃ p, (two + -n).toNat = p := ⟨_, rfl⟩
 obtain ⟨q, hq⟩ : ∃ q, (-(two + -n)).toNat = q := ⟨_, rfl⟩
 rw [ha, hb, hc, hd, hp, hq, show (- -n).toNat = c by omega]
 have e : 2 ^ q * (2 ^ a * 2 ^ d) = 2 ^ p * (2 ^ b * 2 ^ c) := by
  rw [← Nat.pow_add, ← Nat.pow_add, ← Nat.pow_add, ← Nat.pow_add]
  exact congrArg (fun k => 2 ^ k) (by omega)
 have t1 : (10 : Nat) ^ c = 5 ^ c * 2 ^ c := by rw [← Nat.mul_pow]
 have t2 : (10 : Nat) ^ d = 5 ^ d * 2 ^ d := by rw [← Nat.mul_pow]
 rw [t1, t2]
 have hq0 := Az q
 have hbc : 0 < 2 ^ b * 2 ^ c := Nat.mul_pos (Az b) (Az c)
 generalize 2 ^ q = Q at *
 generalize 2 ^ a = A at *
 generalize 2 ^ d = D at *
 generalize 2 ^ p = P at *
 generalize 2 ^ b = B at *
 generalize 2 ^ c = C at *
 generalize 5 ^ c = F at *
 generalize 5 ^ d = G at *
 have r1 : B * (F * C) * Q = F * Q * (B * C) := by grind
 have r2 : m * A * (G * D) * Q = m * G * (Q * (A * D)) := by grind
 have r3 : m * G * P * (B * C) = m * G * (P * (B * C)) := by grind
 constructor
 ·intro h
  refine Nat.le_of_mul_le_mul_right ?_ hq0
  rw [r1, r2, e, ← r3]
  exact Nat.mul_le_mul_right _ h
 ·intro h
  refine Nat.le_of_mul_le_mul_right ?_ hbc
  have := Nat.mul_le_mul_right Q h
  rw [r1, r2, e, ← r3] at this
  exact this
theorem Xh {w : World} {A : Option Addr} {n c m bt V : Nat} {two x1 x2 x3 x4 x5 n1 : Int} (hA : NV w A n c m) (up : Bool)
  (C1 : Hid (∀ W, NV W A n c m → Cq 176 #[.slice A n c] (.int .i64 (bt : Nat)) W))
  (C2 : Hid (∀ W, NV W A n c m → Cp 200 #[.slice A n c, .int .i64 two, .int .i64 (-n1)] W fun e w' => ∃ A3 n3 c3 b, e = .returned (.tuple #[.slice A3 n3 c3, .bool b]) ∧ NV w' A3 n3 c3 V ∧ Below W.heap.size W w'))
  (k1 : wrap64 ((bt : Int) + two) = x1) (k2 : wrap64 (x1 - 1) = x2) (k3 : wrap64 (x2 * 78913) = x3) (k4 : x3 / 262144 = x4) (k5 : wrap64 (x4 + 1) = n1) (k6 : wrap64 (-n1) = -n1) (k7 : wrap64 (n1 + 1) = x5) (hup : up = decide (0 < V)) :
  Ct 146 #[.slice A n c, .int .i64 two] (.int .i64 (if up = true then x5 else n1)) w := by
 have HA := Lh hA
 have HU := Lh hup
 clear hA hup
 go_enter Tryz.func146, Tryz.ntmps146
 go_wp2_with fail
 refine Sm (C1.out _ HA.out) ?_
 go_wp2_with fail
 refine (C2.out _ HA.out).mono ?_
 rintro e w1 ⟨A3, n3, c3, b, rfl, g, b1⟩
 have B1 := Lh b1
 have hl := g.len
 clear b1
 have h0 := HU.out
 cases up
 ·have hV : V = 0 := by
   have := of_decide_eq_false h0.symm
   omega
  have t1 : ¬ (0 : Int) < (n3 : Int) := by
   rw [hV] at hl
   have : n3 = 0 := by rw [← hl]; rfl
   omega
  clear g hl h0 hV
  go_wp2
  go_ret
  exact ⟨rfl, B1.out⟩
 ·have hV : 0 < V := of_decide_eq_true h0.symm
  have t1 : (0 : Int) < (n3 : Int) := by
   have h2 : (wds V) ≠ [] := fun e => by
    have h3 := Ae V
    rw [e] at h3
    have : val [] = 0 := rfl
    omega
   have := List.length_pos_iff.2 h2
   omega
  clear g hl h0 hV
  go_wp2
  go_ret
  exact ⟨rfl, B1.out⟩
end
section
theorem Aa2 {m k : Nat} {two e : Int} (h1 : 2 ^ k ≤ m) (h2 : m < 2 ^ (k + 1)) (he : (k : Int) + two = e) :
  2 ^ e.toNat * 2 ^ (-two).toNat ≤ m * 2 ^ two.toNat * 2 ^ (-e).toNat ∧ m * 2 ^ two.toNat * 2 ^ (-e).toNat < 2 * 2 ^ e.toNat * 2 ^ (-two).toNat := by
 have key : 2 ^ k * 2 ^ two.toNat * 2 ^ (-e).toNat = 2 ^ e.toNat * 2 ^ (-two).toNat := by
  rw [← Nat.pow_add, ← Nat.pow_add, ← Nat.pow_add]
  exact congrArg (fun k => 2 ^ k) (by omega)
 have hp := Az two.toNat
 have hq := Az (-e).toNat
 constructor
 ·rw [← key]
  exact Nat.mul_le_mul_right _ (Nat.mul_le_mul_right _ h1)
 ·rw [Nat.mul_assoc, Nat.mul_assoc 2, ← key, ← Nat.mul_assoc m, ← Nat.mul_assoc 2, ← Nat.mul_assoc 2, show 2 * 2 ^ k = 2 ^ (k + 1) by rw [Nat.pow_succ, Nat.mul_comm]]
  exact Nat.mul_lt_mul_of_pos_right (Nat.mul_lt_mul_of_pos_right h2 hp) hq
theorem Yr {w : World} {A : Option Addr} {n c m : Nat} (two : Int) (hA : NV w A n c m) (h0 : 0 < m) (hm : bln m ≤ 100) (h1 : -1140 < (bln m : Int) + two - 1) (h2 : (bln m : Int) + two - 1 < 1100) :
  ∃ p : Int, Cj (m * 2 ^ two.toNat) (2 ^ (-two).toNat) p ∧ -345 ≤ p ∧ p ≤ 335 ∧ Ct 146 #[.slice A n c, .int .i64 two] (.int .i64 p) w := by
 obtain ⟨u1, u2, u3⟩ := Be h0
 obtain ⟨k, hk⟩ : ∃ k, bln m = k + 1 := ⟨bln m - 1, by omega⟩
 have C1 := Lh (fun W (h : NV W A n c m) => Abl h (by omega))
 rw [hk] at u1 u2 hm h1 h2 C1
 rw [Nat.add_sub_cancel] at u1
 obtain ⟨e, he⟩ : ∃ e, (k : Int) + two = e := ⟨_, rfl⟩
 obtain ⟨l1, l2⟩ := Aa2 u1 u2 he
 obtain ⟨p1, p2⟩ := Xl (u := m * 2 ^ two.toNat) (v := 2 ^ (-two).toNat) (e := e) (Az _) (by omega) (by omega) l1 l2
 obtain ⟨n1, hn1⟩ : ∃ n1, lg2 e + 1 = n1 := ⟨_, rfl⟩
 have hlg : e * 78913 / 262144 = n1 - 1 := by unfold lg2 at hn1; omega
 have b1 : -345 ≤ n1 ∧ n1 ≤ 333 := by omega
 rw [hn1] at p1 p2
 rw [show lg2 e + 2 = n1 + 1 by omega] at p2
 have hs := Aox m two n1
 have hq : (0 < scA m two (-n1) / scB two (-n1)) ↔ Fk n1 (m * 2 ^ two.toNat) (2 ^ (-two).toNat) := by
  rw [Nat.div_pos_iff, ← hs]
  exact ⟨fun h => h.2, fun h => ⟨Ach _ _, h⟩⟩
 have C2 : Hid (∀ W, NV W A n c m → Cp 200 #[.slice A n c, .int .i64 two, .int .i64 (-n1)] W fun e w' => ∃ A3 n3 c3 b, e = .returned (.tuple #[.slice A3 n3 c3, .bool b]) ∧ NV w' A3 n3 c3 (scA m two (-n1) / scB two (-n1)) ∧ Below W.heap.size W w') := Lh (fun W h => (Lq two (-n1) h (by omega) (by omega) (by omega) (by omega) (by omega)).mono (by
  rintro e w' ⟨A3, n3, c3, rfl, hv, hb⟩
  exact ⟨A3, n3, c3, _, rfl, hv, hb⟩))
 have W := fun up h => Xh (two := two) (x1 := ((k + 1 : Nat) : Int) + two) (x2 := e) (x3 := e * 78913) (x4 := n1 - 1) (x5 := n1 + 1) (n1 := n1) hA up C1 C2 (by unfold wrap64; omega) (by unfold wrap64; omega) (by unfold wrap64; omega) hlg (by unfold wrap64; omega) (by unfold wrap64; omega) (by unfold wrap64; omega) h
 by_cases h : 0 < scA m two (-n1) / scB two (-n1)
 ·exact ⟨n1 + 1, p2 (hq.1 h), by omega, by omega, W true (decide_eq_true h).symm⟩
 ·exact ⟨n1, p1 (fun hh => h (hq.2 hh)), by omega, by omega, W false (decide_eq_false h).symm⟩
end
section
theorem Ahw {N S P Q x y : Nat} (h : N * 2 ^ x = S * 2 ^ y) (e : P + y = x + Q) : N * 2 ^ P = S * 2 ^ Q := by
 refine Nat.eq_of_mul_eq_mul_right (Az y) ?_
 rw [Nat.mul_assoc, ← Nat.pow_add, e, Nat.pow_add, ← Nat.mul_assoc, h, Nat.mul_assoc, Nat.mul_assoc, Nat.mul_comm (2 ^ y)]
theorem Wb {N S M x y : Nat} {two ten : Int} (hxy : (x : Int) - y = two + M) (h : N * 2 ^ x = S * 2 ^ y) :
  scA N two ten * (2 ^ M * 10 ^ (-ten).toNat) = S * 10 ^ ten.toNat * scB two ten := by
 unfold scA scB
 obtain ⟨a, ha⟩ : ∃ a, ten.toNat = a := ⟨_, rfl⟩
 obtain ⟨b, hb⟩ : ∃ b, (-ten).toNat = b := ⟨_, rfl⟩
 obtain ⟨p, hp⟩ : ∃ p, (two + ten).toNat = p := ⟨_, rfl⟩
 obtain ⟨q, hq⟩ : ∃ q, (-(two + ten)).toNat = q := ⟨_, rfl⟩
 rw [ha, hb, hp, hq]
 have key := Ahw (P := p + (M + b)) (Q := a + q) h (by omega)
 rw [Nat.pow_add, Nat.pow_add, Nat.pow_add] at key
 have t1 : (10 : Nat) ^ a = 5 ^ a * 2 ^ a := by rw [← Nat.mul_pow]
 have t2 : (10 : Nat) ^ b = 5 ^ b * 2 ^ b := by rw [← Nat.mul_pow]
 rw [t1, t2]
 generalize 2 ^ p = P' at *
 generalize 2 ^ M = M' at *
 generalize 2 ^ b = B' at *
 generalize 2 ^ a = A' at *
 generalize 2 ^ q = Q' at *
 generalize 5 ^ a = F
 generalize 5 ^ b = G
 have r1 : N * F * P' * (M' * (G * B')) = F * G * (N * (P' * (M' * B'))) := by grind
 have r2 : S * (F * A') * (G * Q') = F * G * (S * (A' * Q')) := by grind
 rw [r1, r2, key]
theorem I7 {a b c d : Nat} (hb : 0 < b) (hd : 0 < d) (h : a * d = c * b) : a % b = 0 ↔ c % d = 0 := by
 have e := (Er hb hd h).1
 have h1 := Nat.div_add_mod a b
 have h2 := Nat.div_add_mod c d
 generalize a % b = s at *
 generalize c % d = t at *
 rw [← e] at h2
 generalize a / b = q at *
 have k1 : a * d = b * q * d + s * d := by rw [← h1]; grind
 have k2 : c * b = b * q * d + t * b := by rw [← h2]; grind
 have k3 : s * d = t * b := by omega
 constructor
 ·intro h0
  rw [h0, Nat.zero_mul] at k3
  rcases Nat.mul_eq_zero.1 k3.symm with h | h
  ·exact h
  ·omega
 ·intro h0
  rw [h0, Nat.zero_mul] at k3
  rcases Nat.mul_eq_zero.1 k3 with h | h
  ·exact h
  ·omega
theorem Wc {r c D : Nat} (h1 : r = D * 4503599627370496 + c) (h2 : c < 9007199254740992) (h3 : D = 0 ∨ 4503599627370496 ≤ c) (h0 : 0 < r) :
  2 * (Ac r + Ac (r + 1)) = (4 * c + 2) * 2 ^ D ∧ 2 * (Ac (r - 1) + Ac r) = (4 * c - (if c = 4503599627370496 ∧ 0 < D then 1 else 2)) * 2 ^ D := by
 obtain ⟨D', c', e1, e2, e3, e4, e5⟩ := Dn r
 have hD : D' = D ∧ c' = c := by
  rcases h3 with h3 | h3 <;> rcases e3 with e3 | e3 <;> omega
 obtain ⟨rfl, rfl⟩ := hD
 have hc0 : 0 < c' := by
  rcases h3 with h3 | h3
  ·subst h3; omega
  ·omega
 refine ⟨by rw [e4, e5, ← Nat.add_mul]; grind, ?_⟩
 by_cases hp : c' = 4503599627370496 ∧ 0 < D'
 ·obtain ⟨p1, p2⟩ := hp
  rw [if_pos ⟨p1, p2⟩]
  obtain ⟨d, rfl⟩ : ∃ d, D' = d + 1 := ⟨D' - 1, by omega⟩
  have hr : r - 1 = d * 4503599627370496 + 9007199254740991 := by omega
  have hm := Ax 9007199254740991 d (by omega) (by omega)
  rw [← hr] at hm
  rw [hm, e4, p1, Nat.pow_succ]
  generalize 2 ^ d = X
  omega
 ·rw [if_neg hp]
  have hm : Ac (r - 1) = (c' - 1) * 2 ^ D' := by
   rcases Nat.eq_zero_or_pos D' with hD | hD
   ·subst hD
    rw [show r - 1 = c' - 1 by omega, Ej (by omega)]
    simp
   ·have : 4503599627370496 < c' := by
     rcases e3 with e3 | e3
     ·omega
     ·have : c' ≠ 4503599627370496 := fun h => hp ⟨h, hD⟩
      omega
    have hm := Ax (c' - 1) D' (by omega) (by omega)
    rw [← hm]
    exact congrArg Ac (by omega)
  rw [hm, e4]
  obtain ⟨x, rfl⟩ : ∃ x, c' = x + 1 := ⟨c' - 1, by omega⟩
  generalize 2 ^ D' = X
  rw [show 4 * (x + 1) - 2 = 4 * x + 2 by omega, show x + 1 - 1 = x by omega]
  grind
end
section
def PartIs (r m : Nat) (two : Int) : Prop := ∃ c D k : Nat, r = D * 4503599627370496 + c ∧ c < 9007199254740992 ∧ (D = 0 ∨ 4503599627370496 ≤ c) ∧ c = m * 2 ^ k ∧ two = (D : Int) - 1074 + k ∧ m % 2 = 1 ∧ D ≤ 2045 ∧ k ≤ 52
theorem Za {m L : Nat} (h1 : 2 ^ L ≤ m) (h2 : m < 2 ^ (L + 1)) : bln m = L + 1 := by
 have h0 : 0 < m := Nat.lt_of_lt_of_le (Az L) h1
 obtain ⟨b1, b2, b3⟩ := Be h0
 have c1 : L < bln m := (Nat.pow_lt_pow_iff_right (by omega)).1 (Nat.lt_of_le_of_lt h1 b2)
 have c2 : bln m - 1 < L + 1 := (Nat.pow_lt_pow_iff_right (a := 2) (by omega)).1 (Nat.lt_of_le_of_lt b1 h2)
 omega
theorem Ry {m k : Nat} (h0 : 0 < m) : bln (m * 2 ^ k) = bln m + k := by
 obtain ⟨b1, b2, b3⟩ := Be h0
 obtain ⟨L, hL⟩ : ∃ L, bln m = L + 1 := ⟨bln m - 1, by omega⟩
 rw [hL] at b1 b2
 rw [hL, Za (L := L + k)]
 ·omega
 ·rw [Nat.pow_add]
  exact Nat.mul_le_mul_right _ b1
 ·rw [show L + k + 1 = L + 1 + k by omega, Nat.pow_add]
  exact Nat.mul_lt_mul_of_pos_right b2 (Az k)
theorem PartIs.mag {r m : Nat} {two : Int} (h : PartIs r m two) {K : Nat} (hK : K = 1074) : ∃ t : Nat, (t : Int) = two + K ∧ Ac r = m * 2 ^ t := by
 obtain ⟨c, D, k, h1, h2, h3, h4, h5, h6, _, _⟩ := h
 obtain ⟨D', c', e1, e2, e3, e4, e5⟩ := Dn r
 have hD : D' = D ∧ c' = c := by
  rcases h3 with h3 | h3 <;> rcases e3 with e3 | e3 <;> omega
 obtain ⟨rfl, rfl⟩ := hD
 refine ⟨k + D', by omega, ?_⟩
 rw [e4, h4, Nat.mul_assoc, ← Nat.pow_add]
theorem PartIs.pos {r m : Nat} {two : Int} (h : PartIs r m two) : 0 < m ∧ bln m ≤ 53 ∧ -1074 < (bln m : Int) + two ∧ (bln m : Int) + two ≤ 1024 ∧ -1074 ≤ two ∧ two ≤ 1023 := by
 obtain ⟨c, D, k, h1, h2, h3, h4, h5, h6, h7, h8⟩ := h
 have h0 : 0 < m := by omega
 have hb := Ry (k := k) h0
 rw [← h4] at hb
 have hc : 0 < c := by rw [h4]; exact Nat.mul_pos h0 (Az k)
 obtain ⟨b1, b2, b3⟩ := Be hc
 obtain ⟨_, _, b6⟩ := Be h0
 have : bln c ≤ 53 := Gd (by omega)
 omega
theorem Ahj {r m : Nat} {two : Int} (h : PartIs r m two) : m * 2 ^ two.toNat * big = Ac r * 2 ^ (-two).toNat := by
 obtain ⟨K, hK, hb⟩ := Lz
 obtain ⟨t, ht, hm⟩ := h.mag hK
 rw [hm, hb, Nat.mul_assoc, Nat.mul_assoc, ← Nat.pow_add, ← Nat.pow_add]
 exact congrArg (fun k => m * 2 ^ k) (by omega)
theorem Ht {u v u' v' : Nat} {n : Int} (hv : 0 < v) (hv' : 0 < v') (h : u * v' = u' * v) (hp : Cj u v n) : Cj u' v' n :=
 ⟨Kg hv (Nat.le_of_eq h) hp.1, fun g => hp.2 (Kg hv' (Nat.le_of_eq h.symm) g)⟩
theorem Z5 {r m c D k : Nat} {s : Int} {K : Nat} (hK : K = 1074) (h1 : r = D * 4503599627370496 + c) (h2 : c < 9007199254740992) (h3 : D = 0 ∨ 4503599627370496 ≤ c) (h4 : c = m * 2 ^ k) :
  scA (m * 2 ^ (k + 2)) ((D : Int) - 1076) s * vV s = vU r s * scB ((D : Int) - 1076) s := by
 obtain ⟨K', hK', hb⟩ := Lz
 have : K' = K := by omega
 subst this
 obtain ⟨D', c', e1, e2, e3, e4, e5⟩ := Dn r
 have hD : D' = D ∧ c' = c := by
  rcases h3 with h3 | h3 <;> rcases e3 with e3 | e3 <;> omega
 obtain ⟨rfl, rfl⟩ := hD
 unfold vV vU
 rw [hb]
 refine Wb (x := D') (y := 2) (by omega) ?_
 rw [e4, h4, Nat.pow_add]
 generalize 2 ^ D' = X
 generalize 2 ^ k = Y
 grind
theorem Rh {N S D : Nat} {s : Int} {K : Nat} (hK : K = 1074) (h : 2 * S = N * 2 ^ D) : scA N ((D : Int) - 1076) s * (2 * vV s) = S * 10 ^ s.toNat * scB ((D : Int) - 1076) s := by
 obtain ⟨K', hK', hb⟩ := Lz
 have : K' = K := by omega
 subst this
 unfold vV
 rw [hb, show 2 * (2 ^ K' * 10 ^ (-s).toNat) = 2 ^ (K' + 1) * 10 ^ (-s).toNat from by rw [Nat.pow_succ]; grind]
 exact Wb (x := D) (y := 1) (by omega) (by rw [Nat.pow_one]; omega)
theorem Na {r : Nat} {n : Int} (hp : Cj (Ac r) big n) : vU r (18 - n) / vV (18 - n) < 1000000000000000000 ∧ 100000000000000000 ≤ vU r (18 - n) / vV (18 - n) := by
 have h := Ams (k := 18) hp
 have g := Amn (k := 18) hp (by omega)
 exact ⟨h, g⟩
theorem Akx {r : Nat} (h0 : 0 < r) : Ac (r + 1) ≤ 2 * Ac r := by
 obtain ⟨D, c, e1, e2, e3, e4, e5⟩ := Dn r
 have hc : 1 ≤ c := by
  rcases e3 with e3 | e3
  ·subst e3; omega
  ·omega
 rw [e4, e5, ← Nat.mul_assoc]
 exact Nat.mul_le_mul_right _ (by omega)
theorem Alv {r : Nat} {n : Int} (h0 : 0 < r) (hp : Cj (Ac r) big n) : (Ac r + Ac (r + 1)) * 10 ^ ((18 : Int) - n).toNat / (2 * vV (18 - n)) < 2000000000000000000 ∧ 0 < (Ac r + Ac (r + 1)) * 10 ^ ((18 : Int) - n).toNat / (2 * vV (18 - n)) := by
 obtain ⟨h1, h2⟩ := Na hp
 have hv := Du (18 - n)
 rw [Nat.div_lt_iff_lt_mul hv] at h1
 rw [Nat.le_div_iff_mul_le hv] at h2
 have h3 := Akx h0
 unfold vU at h1 h2
 have hup : Ac r < Ac (r + 1) := Bz (by omega)
 generalize 10 ^ ((18 : Int) - n).toNat = B at *
 generalize vV (18 - n) = V at *
 generalize Ac r = f at *
 generalize Ac (r + 1) = g at *
 have h4 : g * B ≤ 2 * (f * B) := by rw [← Nat.mul_assoc]; exact Nat.mul_le_mul_right _ h3
 have h5 : f * B ≤ g * B := Nat.mul_le_mul_right _ (by omega)
 constructor
 ·rw [Nat.div_lt_iff_lt_mul (by omega), Nat.add_mul]
  omega
 ·rw [Nat.div_pos_iff, Nat.add_mul]
  omega
theorem Afx {r : Nat} {n : Int} (h0 : 0 < r) (hp : Cj (Ac r) big n) : (Ac (r - 1) + Ac r) * 10 ^ ((18 : Int) - n).toNat / (2 * vV (18 - n)) < 1000000000000000000 := by
 obtain ⟨h1, h2⟩ := Na hp
 have hv := Du (18 - n)
 rw [Nat.div_lt_iff_lt_mul hv] at h1
 unfold vU at h1
 have hup : Ac (r - 1) < Ac r := Bz (by omega)
 generalize 10 ^ ((18 : Int) - n).toNat = B at *
 generalize vV (18 - n) = V at *
 generalize Ac r = f at *
 generalize Ac (r - 1) = g at *
 have h5 : g * B ≤ f * B := Nat.mul_le_mul_right _ (by omega)
 rw [Nat.div_lt_iff_lt_mul (by omega), Nat.add_mul]
 omega
end
section
theorem Df {w : World} {A : Option Addr} {n c v : Nat} (hA : NV w A n c v) (hv : v < 18446744073709551616) :
  Cq 189 #[.slice A n c] (.int .u64 v) w := by
 have hn : n ≤ 2 := by
  rw [← hA.len]
  exact Bl (by rw [show (4294967296 : Nat) ^ 2 = 18446744073709551616 from by decide]; exact hv)
 have hL := hA.len
 have hws := Bh v
 by_cases hn0 : n = 0
 ·subst hn0
  have hv0 : v = 0 := by
   have h1 := Ae v
   rw [List.eq_nil_of_length_eq_zero hL] at h1
   exact h1.symm
  subst hv0
  clear hL hws hv hA hn
  go_enter Tryz.func189, Tryz.ntmps189
  go_wp2
  go_loopw [3, 8] (fun a i wr => a = .int .u64 0 ∧ i = .int .i64 0 ∧ w = wr) (fun _ _ _ => 0)
  case atStart => exact ⟨rfl, rfl, rfl⟩
  case round =>
   obtain ⟨rfl, rfl, rfl⟩ := hrel
   go_wp2
   go_ret
   exact ⟨rfl, rfl⟩
 ·obtain ⟨b, off, rfl, _, hc⟩ := hA.row.2 (by omega)
  obtain ⟨x, hx⟩ : ∃ x, (wds v).getD 0 0 = x := ⟨_, rfl⟩
  obtain ⟨y, hy⟩ : ∃ y, (wds v).getD 1 0 = y := ⟨_, rfl⟩
  have hxl : x < 4294967296 := by rw [← hx]; exact hws.getD 0
  have hyl : y < 4294967296 := by rw [← hy]; exact hws.getD 1
  have hV1 : n = 1 → v = x := by
   intro h1
   have h2 := Ae v
   rw [← Bf (k := 1) (by omega), Aw, hx] at h2
   simp [val] at h2
   exact h2.symm
  have hV2 : n = 2 → v = x + 4294967296 * y := by
   intro h1
   have h2 := Ae v
   rw [← Bf (k := 2) (by omega), Aw, Aw, hx, hy] at h2
   simp [val] at h2
   exact h2.symm
  have c0 : w.cell? ⟨b, off, none⟩ = some (.int .u32 (x : Int)) := by
   rw [← hx]
   exact hc 0 _ (getD_some (by omega))
  have hx0 : bits BinOp.or IntKind.u64 0 (x : Int) = (x : Int) := by
   have := Fh 0 x (by omega) (by omega)
   rw [Nat.zero_or] at this
   exact this
  have k1 : IntKind.u64.wrap (x : Int) = (x : Int) := IntWalk.u64_in _ (by omega)
  rcases (show n = 1 ∨ n = 2 by omega) with rfl | rfl
  ·have hv1 := hV1 rfl
   subst hv1
   clear hV1 hV2 hx hy hyl hws hL hA hn hn0 hc
   go_enter Tryz.func189, Tryz.ntmps189
   go_wp2
   go_loopw [3, 8] (fun a i wr => ((a = .int .u64 0 ∧ i = .int .i64 0) ∨ (a = .int .u64 (v : Int) ∧ i = .int .i64 1)) ∧ w = wr) (fun _ i _ => 1 - (intOf i).toNat)
   case atStart => exact ⟨Or.inl ⟨rfl, rfl⟩, rfl⟩
   case round =>
    obtain ⟨⟨rfl, rfl⟩ | ⟨rfl, rfl⟩, rfl⟩ := hrel
    ·go_wp2
     exact ⟨⟨Or.inr ⟨rfl, rfl⟩, trivial⟩, by simp [intOf]⟩
    ·go_wp2
     go_ret
     exact ⟨rfl, rfl⟩
  ·have hv2 := hV2 rfl
   have c1 : w.cell? ⟨b, off + 1, none⟩ = some (.int .u32 (y : Int)) := by
    rw [← hy]
    exact hc 1 _ (getD_some (by omega))
   have k2 : IntKind.u64.wrap (y : Int) = (y : Int) := IntWalk.u64_in _ (by omega)
   have k3 : IntKind.u64.wrap ((y : Int) * 4294967296) = (y : Int) * 4294967296 := IntWalk.u64_in _ (by omega)
   have hy0 : bits BinOp.or IntKind.u64 (x : Int) ((y : Int) * 4294967296) = (v : Int) := by
    have h1 := Fh x (y * 4294967296) (by omega) (by omega)
    have h2 : ((y * 4294967296 : Nat) : Int) = (y : Int) * 4294967296 := by omega
    rw [h2] at h1
    rw [h1, Nat.or_comm, Wd y x hxl, hv2, Nat.mul_comm y, Nat.add_comm]
   clear hV1 hV2 hx hy hws hL hA hn hn0 hc hv2 hxl hyl hv
   go_enter Tryz.func189, Tryz.ntmps189
   go_wp2
   go_loopw [3, 8] (fun a i wr => ((a = .int .u64 0 ∧ i = .int .i64 0) ∨ (a = .int .u64 (x : Int) ∧ i = .int .i64 1) ∨ (a = .int .u64 (v : Int) ∧ i = .int .i64 2)) ∧ w = wr) (fun _ i _ => 2 - (intOf i).toNat)
   case atStart => exact ⟨Or.inl ⟨rfl, rfl⟩, rfl⟩
   case round =>
    obtain ⟨⟨rfl, rfl⟩ | ⟨rfl, rfl⟩ | ⟨rfl, rfl⟩, rfl⟩ := hrel
    ·go_wp2
     exact ⟨⟨Or.inr (Or.inl ⟨rfl, rfl⟩), trivial⟩, by simp [intOf]⟩
    ·go_wp2
     exact ⟨⟨Or.inr (Or.inr ⟨rfl, rfl⟩), trivial⟩, by simp [intOf]⟩
    ·go_wp2
     go_ret
     exact ⟨rfl, rfl⟩
end
end Go.Proofs.YtmakhfekiieneaaGreatDoor
