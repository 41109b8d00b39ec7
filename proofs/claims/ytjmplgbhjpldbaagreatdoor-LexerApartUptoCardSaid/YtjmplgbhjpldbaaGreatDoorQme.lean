/-
  Merged texts (Lg, Lh, Li, Lj, Pd, Qa).
-/
import Derived.Test.YtjmplgbhjpldbaaGreatDoorQmd
import Derived.Shelf.Strings.SlTrimAscii
import Derived.Shelf.Strings.Builder1
import Derived.Shelf.Strings.Builder2
import Derived.Shelf.Strings.OnBuilder
import Derived.Shelf.Strings.Trim
import Derived.Shelf.Small.Utf8
import Derived.Shelf.Small.Bits
import Derived.Shelf.Small.Strs
import Derived.Shelf.Small.Wraps
import Derived.Shelf.Strings.BuilderF
import Derived.Shelf.Strings.BuilderK
import Derived.Shelf.Strings.BuilderRune
import Derived.Shelf.Utf8.AppendRune
import Derived.Shelf.Strconv.Itoa0
import Derived.Shelf.Strings.Search1
import Derived.Shelf.Strings.Prefix
import Derived.Shelf.Unicode.Latin
import Derived.Shelf.Strings.Runes
import Derived.Shelf.Strings.AsciiSet
import Derived.Shelf.Unicode.DecodeSlow
import Derived.Shelf.Unicode.CaseLookup
import Derived.Shelf.Unicode.CaseConvert
import Derived.Shelf.Unicode.CaseTo
import Derived.Shelf.Unicode.CaseLaid
import Derived.Test.YtjmplgbhjpldbaaGreatDoorProg
import GoSem.Core.Utf8
import Derived.WalkKit
import Derived.WalkSpells
import Derived.WalkLawsBesides
import Derived.Deep.QuietTactic
import Derived.BigQuiet
import Derived.Lib.Hide
import Derived.Deep.OwnRows
import Derived.Laws.CopyOwn
import Derived.Deep.AppendLies
import Derived.Lib.BitFns
import Derived.Lib.Strings
import Derived.Laws.BitsAllLaws
import Derived.Lib.LaidTab
import Ieee.Arith
import GoSem.Core.Float
import Derived.Laws.BytesString
import Derived.Laws.Cells
import Derived.Deep.RegionHeld3
import Derived.Laws.Closers25b
import Derived.ProofKit
import Derived.OpenShut
import Derived.SizedLaws
import Derived.Deep.RegionWith
import Derived.BigRegion
import Derived.Laws.FloatArith
import Derived.Laws.Externs
import Derived.Lib.ItoaNum
import Derived.Deep.DeepCutAuto
import Derived.Deep.WholeRow
import Derived.Laws.Tables
import Derived.Laws.EntriesVeiled
import Derived.Lib.SlTrimSet
import Derived.Lib.Case
import Derived.Lib.AppendIntMem
import Derived.Test.YtjmplgbhjpldbaaGreatDoorRows
import Derived.OwnWalk
import Derived.Lib.RuneBytes
import Derived.StillTailTactics
import Derived.Deep.RegionHeld
namespace Go.Proofs.YtjmplgbhjpldbaaGreatDoor
def Behind (R R' : List Nat) : Prop := hd0 R' = hd0 R ∨ hd0 R' = 32
theorem pt_32 : ptN 32 = false ∧ dg10 32 = false ∧ hx16 32 = false := by decide +kernel
theorem pt_0 : ptN 0 = false ∧ dg10 0 = false ∧ hx16 0 = false := by decide +kernel
theorem pt_dg {c : Nat} (h : ptN c = false) : dg10 c = false := by
 unfold ptN ptB at h
 rw [Bool.or_eq_false_iff] at h
 unfold dg10
 have h2 := h.2
 rw [Bool.and_eq_false_iff] at h2 ⊢
 rcases h2 with h2 | h2
 ·left
  have := of_decide_eq_false h2
  exact decide_eq_false (by omega)
 ·right
  have := of_decide_eq_false h2
  exact decide_eq_false (by omega)
theorem pt_hx {c : Nat} (h : ptN c = false) : hx16 c = false := by
 rcases Nat.lt_or_ge c 128 with hc | hc
 ·have key : ∀ k : Fin 128, ptN k.val = false → hx16 k.val = false := by decide +kernel
  exact key ⟨c, hc⟩ h
 ·unfold hx16 dgt
  rw [if_neg (by omega), if_neg (by omega), if_neg (by omega)]
  decide
theorem pt_e {c : Nat} (h : ptN c = false) : c ≠ 101 ∧ c ≠ 69 := by
 constructor <;> rintro rfl
 ·rw [ptN_e.1] at h; cases h
 ·rw [ptN_e.2] at h; cases h
/-! ### Names -/
theorem nam_ext : ∀ (f : Nat) (b : Bool) (l t : List Nat) (e : Bool) (n : Nat) (R' : List Nat) (g : Nat), namF f b l = some (t, e, n) → l.length < f → Behind (l.drop n) R' → n + R'.length < g → namF g b (l.take n ++ R') = some (t, e, n)
 | 0, _, _, _, _, _, _, _, _, hf, _, _ => by omega
 | f + 1, b, [], t, e, n, R', g, h, _, hb, hg => by
  obtain ⟨k, rfl⟩ : ∃ k, g = k + 1 := ⟨g - 1, by omega⟩
  have h0 : some (([] : List Nat), false, 0) = some (t, e, n) := h
  cases h0
  rw [List.take_nil, List.nil_append]
  cases R' with
  | nil => rfl
  | cons c r =>
   have hc : c = 0 ∨ c = 32 := hb
   rw [namF, if_neg (by omega), if_neg]
   intro h1
   have := fit_pt h1
   rcases hc with rfl | rfl
   ·rw [pt_0.1] at this; cases this
   ·rw [pt_32.1] at this; cases this
 | f + 1, b, c :: r, t, e, n, R', g, h, hf, hb, hg => by
  obtain ⟨k, rfl⟩ : ∃ k, g = k + 1 := ⟨g - 1, by omega⟩
  rw [List.length_cons] at hf
  rw [namF] at h
  split at h
  ·rename_i h92
   split at h
   ·rename_i hu
    obtain ⟨q, hq⟩ := hd0_get (by omega) hu
    cases hx : hexA 0 4 r.tail with
    | none => rw [hx] at h; cases h
    | some v =>
     rw [hx] at h
     simp only at h
     split at h
     ·rename_i hfit
      cases hs : namF f false (r.drop 5) with
      | none => rw [hs] at h; cases h
      | some p =>
       obtain ⟨t1, e1, n1⟩ := p
       rw [hs] at h
       have h0 : some (v :: t1, true, 6 + n1) = some (t, e, n) := h
       cases h0
       have h4 := hexA_len hx
       rw [hq, List.tail_cons] at h4 hx
       obtain ⟨a1, a2, a3, a4, q2, rfl⟩ : ∃ a1 a2 a3 a4 q2, q = a1 :: a2 :: a3 :: a4 :: q2 := by
        match q, h4 with
        | a1 :: a2 :: a3 :: a4 :: q2, _ => exact ⟨a1, a2, a3, a4, q2, rfl⟩
       subst hq
       have ed : List.drop 5 (117 :: a1 :: a2 :: a3 :: a4 :: q2) = q2 := rfl
       rw [ed] at hs
       have hb2 : Behind (q2.drop n1) R' := by
        have : (c :: 117 :: a1 :: a2 :: a3 :: a4 :: q2).drop (6 + n1) = q2.drop n1 := by
         rw [show 6 + n1 = n1 + 6 by omega]
         rfl
        rw [this] at hb
        exact hb
       have ih := nam_ext f false q2 t1 e1 n1 R' k hs (by simp at hf; omega) hb2 (by omega)
       have et : (c :: 117 :: a1 :: a2 :: a3 :: a4 :: q2).take (6 + n1) ++ R' = c :: 117 :: a1 :: a2 :: a3 :: a4 :: (q2.take n1 ++ R') := by
        rw [show 6 + n1 = n1 + 6 by omega]
        rfl
       have hx2 : hexA 0 4 (a1 :: a2 :: a3 :: a4 :: (q2.take n1 ++ R')) = some v := by
        simp only [hexA] at hx ⊢
        exact hx
       rw [et, namF, if_pos h92, if_pos (hd0_cons _ _), List.tail_cons, hx2]
       simp only
       rw [if_pos hfit]
       show (namF k false (q2.take n1 ++ R')).map _ = _
       rw [ih]
       rfl
     ·cases h
   ·cases h
  ·rename_i h92
   split at h
   ·rename_i hfit
    cases hs : namF f false r with
    | none => rw [hs] at h; cases h
    | some p =>
     obtain ⟨t1, e1, n1⟩ := p
     rw [hs] at h
     have h0 : some (c :: t1, e1, 1 + n1) = some (t, e, n) := h
     cases h0
     have hb2 : Behind (r.drop n1) R' := by
      rw [show 1 + n1 = n1 + 1 by omega, List.drop_succ_cons] at hb
      exact hb
     have ih := nam_ext f false r t1 _ n1 R' k hs (by omega) hb2 (by omega)
     rw [show 1 + n1 = n1 + 1 by omega, List.take_succ_cons, List.cons_append, namF, if_neg h92, if_pos hfit, ih]
     rw [show n1 + 1 = 1 + n1 by omega]
     rfl
   ·rename_i hfit
    have h0 : some (([] : List Nat), false, 0) = some (t, e, n) := h
    cases h0
    rw [List.take_zero, List.nil_append]
    cases R' with
    | nil => rfl
    | cons d r2 =>
     have hd : d = c ∨ d = 32 := hb
     rw [namF]
     rcases hd with rfl | rfl
     ·rw [if_neg h92, if_neg hfit]
     ·rw [if_neg (by omega), if_neg]
      intro h1
      have := fit_pt h1
      rw [pt_32.1] at this
      cases this
/-! ### Strings -/
theorem esc_ext {l v : List Nat} {n : Nat} (h : escL l = some (v, n)) {m : Nat} (hm : n < m) (R' : List Nat) (hl : m ≤ l.length) : escL (l.take m ++ R') = some (v, n) := by
 cases l with
 | nil => cases h
 | cons c r =>
  obtain ⟨k, rfl⟩ : ∃ k, m = k + 1 := ⟨m - 1, by omega⟩
  have hk : ∀ (a j : Nat) (x : List Nat) (d : Nat), j ≤ d → hexA a j (x.take d ++ R') = hexA a j x ∨ x.length < d := by
   intro a j
   induction j generalizing a with
   | zero => intro x d _; left; rw [hexA, hexA]
   | succ j ih =>
    intro x d hd
    obtain ⟨d', rfl⟩ : ∃ d', d = d' + 1 := ⟨d - 1, by omega⟩
    cases x with
    | nil => right; simp
    | cons y z =>
     rcases (show z.length < d' ∨ d' ≤ z.length by omega) with hz | hz
     ·right
      rw [List.length_cons]
      omega
     ·left
      rw [List.take_succ_cons, List.cons_append]
      cases j with
      | zero => simp only [hexA]
      | succ j =>
       simp only [hexA]
       congr 1
       funext w
       rcases ih (a * 16 + w) z d' (by omega) with h1 | h1
       ·exact h1
       ·omega
  rw [List.length_cons] at hl
  rw [escL] at h
  rw [List.take_succ_cons, List.cons_append, escL]
  have h1 : ∀ d, d < k → k ≤ r.length → hd0 (r.take k ++ R') = hd0 r := by
   intro d hd hr
   cases r with
   | nil => simp at hr; omega
   | cons a t =>
    obtain ⟨k', rfl⟩ : ∃ k', k = k' + 1 := ⟨k - 1, by omega⟩
    rfl
  split at h
  ·rename_i hc
   rw [if_pos hc]
   cases hx : hexA 0 2 r with
   | none => rw [hx] at h; cases h
   | some d =>
    rw [hx] at h
    have h2 : 3 = n := congrArg Prod.snd (Option.some.inj h)
    rcases hk 0 2 r k (by omega) with h3 | h3
    ·rw [h3, hx]; exact h
    ·omega
  ·rename_i hc
   rw [if_neg hc]
   split at h
   ·rename_i hc2
    rw [if_pos hc2]
    cases hx : hexA 0 4 r with
    | none => rw [hx] at h; cases h
    | some d =>
     rw [hx] at h
     have h2 : 5 = n := congrArg Prod.snd (Option.some.inj h)
     rcases hk 0 4 r k (by omega) with h3 | h3
     ·rw [h3, hx]; exact h
     ·omega
   ·rename_i hc2
    rw [if_neg hc2]
    have hn1 := (esc_len (l := c :: r) (v := v) (n := n) (by rw [escL, if_neg hc, if_neg hc2]; exact h)).1
    rw [h1 0 (by omega) (by omega)]
    exact h
theorem str_ext : ∀ (f q : Nat) (l t : List Nat) (n : Nat) (R' : List Nat) (g : Nat), strF f q l = some (t, n) → n + R'.length < g → strF g q (l.take n ++ R') = some (t, n)
 | 0, _, _, _, _, _, _, h, _ => by cases h
 | _ + 1, _, [], _, _, _, _, h, _ => by cases h
 | f + 1, q, c :: r, t, n, R', g, h, hg => by
  have hle := str_len h
  rw [List.length_cons] at hle
  obtain ⟨k, rfl⟩ : ∃ k, g = k + 1 := ⟨g - 1, by omega⟩
  rw [strF] at h
  split at h
  ·cases h
  ·rename_i h1
   split at h
   ·rename_i h2
    have h0 : some (([] : List Nat), 1) = some (t, n) := h
    cases h0
    rw [List.take_succ_cons, List.cons_append, strF, if_neg h1, if_pos h2]
   ·rename_i h2
    split at h
    ·rename_i h3
     cases he : escL r with
     | none => rw [he] at h; cases h
     | some p =>
      obtain ⟨v, j⟩ := p
      rw [he] at h
      simp only at h
      cases hs : strF f q (r.drop j) with
      | none => rw [hs] at h; cases h
      | some p =>
       obtain ⟨t1, n1⟩ := p
       rw [hs] at h
       have h0 : some (v ++ t1, 1 + j + n1) = some (t, n) := h
       cases h0
       have hn1 : 1 ≤ n1 := by
        rcases Nat.eq_zero_or_pos n1 with h5 | h5
        ·subst h5
         exfalso
         cases f with
         | zero => cases hs
         | succ f =>
          cases hd : r.drop j with
          | nil => rw [hd] at hs; cases hs
          | cons x y =>
           rw [hd, strF] at hs
           split at hs
           ·cases hs
           ·split at hs
            ·cases hs
            ·split at hs
             ·cases he2 : escL y with
              | none => rw [he2] at hs; cases hs
              | some p2 =>
               rw [he2] at hs
               simp only at hs
               cases hs2 : strF f q (y.drop p2.2) with
               | none => rw [hs2] at hs; cases hs
               | some p3 =>
                rw [hs2] at hs
                have h6 : 1 + p2.2 + p3.2 = 0 := congrArg Prod.snd (Option.some.inj hs)
                omega
             ·cases hs2 : strF f q y with
              | none => rw [hs2] at hs; cases hs
              | some p3 =>
               rw [hs2] at hs
               have h6 : 1 + p3.2 = 0 := congrArg Prod.snd (Option.some.inj hs)
               omega
        ·exact h5
       have hl := (esc_len he).2
       have ih := str_ext f q (r.drop j) t1 n1 R' k hs (by omega)
       have hee := esc_ext he (m := j + n1) (by omega) R' (by omega)
       rw [show 1 + j + n1 = (j + n1) + 1 by omega, List.take_succ_cons, List.cons_append, strF, if_neg h1, if_neg h2, if_pos h3, hee]
       simp only
       have hd : (r.take (j + n1) ++ R').drop j = (r.drop j).take n1 ++ R' := by
        rw [List.drop_append_of_le_length (by rw [List.length_take]; omega), List.drop_take, show j + n1 - j = n1 by omega]
       rw [hd, ih, Option.map_some]
       exact congrArg some (Prod.ext rfl (by show 1 + j + n1 = j + n1 + 1; omega))
    ·rename_i h3
     cases hs : strF f q r with
     | none => rw [hs] at h; cases h
     | some p =>
      obtain ⟨t1, n1⟩ := p
      rw [hs] at h
      have h0 : some (c :: t1, 1 + n1) = some (t, n) := h
      cases h0
      have ih := str_ext f q r t1 n1 R' k hs (by omega)
      rw [show 1 + n1 = n1 + 1 by omega, List.take_succ_cons, List.cons_append, strF, if_neg h1, if_neg h2, if_neg h3, ih, Option.map_some]
      exact congrArg some (Prod.ext rfl (by show 1 + n1 = n1 + 1; omega))


end Go.Proofs.YtjmplgbhjpldbaaGreatDoor
namespace Go.Proofs.YtjmplgbhjpldbaaGreatDoor
theorem Behind.pt {R R' : List Nat} (h : Behind R R') (hp : ptN (hd0 R) = false) : ptN (hd0 R') = false := by
 rcases h with h | h
 ·rw [h]; exact hp
 ·rw [h]; exact pt_32.1
theorem head_hd0 {l : List Nat} {c : Nat} (h : l.head? = some c) : hd0 l = c := by
 cases l with
 | nil => cases h
 | cons a t => simpa [hd0] using h
theorem dT_app2 {l X y : List Nat} (hl : l = X ++ dT l) (hy : ∀ c, y.head? = some c → dg10 c = false) (hp : dotB (aft10 l) = true ∨ ∀ c, y.head? = some c → c ≠ 46) : dT (X ++ y) = y := by
 have hrun := run_aft l
 have hall := run10_all l
 have y1 := hy
 cases hd : dotB (aft10 l)
 ·have ht : dT l = aft10 l := by unfold dT; rw [hd, if_neg (by simp)]
  have hX : X = run10 l := by
   rw [ht] at hl
   have := hl.symm.trans hrun.symm
   exact List.append_cancel_right this
  obtain ⟨a1, a2⟩ := run_app (W := run10 l) (r := y) hall y1
  unfold dT
  rw [hX, a2]
  have : dotB y = false := by
   unfold dotB
   rw [beq_eq_false_iff_ne]
   intro h
   rcases hp with hp | hp
   ·rw [hd] at hp
    cases hp
   ·exact hp 46 h rfl
  rw [this, if_neg (by simp)]
 ·have hd' := hd
  unfold dotB at hd'
  rw [beq_iff_eq] at hd'
  cases hq : aft10 l with
  | nil => rw [hq] at hd'; cases hd'
  | cons a q =>
   rw [hq] at hd'
   have ha : a = 46 := by simpa using hd'
   subst ha
   have ht : dT l = aft10 q := by unfold dT; rw [hd, if_pos rfl, hq, List.tail_cons]
   have hrq := run_aft q
   have hX : X = run10 l ++ 46 :: run10 q := by
    have e : l = run10 l ++ 46 :: run10 q ++ aft10 q := by
     calc l = run10 l ++ aft10 l := hrun.symm
      _ = run10 l ++ 46 :: (run10 q ++ aft10 q) := by rw [hq, hrq]
      _ = run10 l ++ 46 :: run10 q ++ aft10 q := by simp
    rw [ht] at hl
    exact List.append_cancel_right (hl.symm.trans e)
   obtain ⟨b1, b2⟩ := run_app (W := run10 q) (r := y) (run10_all q) y1
   obtain ⟨a1, a2⟩ := run_app (W := run10 l) (r := 46 :: (run10 q ++ y)) hall (fun c hc => by
    have : c = 46 := by simpa using hc.symm
    subst this
    decide)
   have e : X ++ y = run10 l ++ 46 :: (run10 q ++ y) := by rw [hX]; simp
   unfold dT
   rw [e, a2]
   have : dotB (46 :: (run10 q ++ y)) = true := by unfold dotB; rfl
   rw [this, if_pos rfl, List.tail_cons, b2]
theorem take_hx {A R : List Nat} (hA : ∀ c ∈ A, hx16 c = true) (hR : hx16 (hd0 R) = false) : (A ++ R).takeWhile hx16 = A := by
 rw [List.takeWhile_append_of_pos hA]
 cases R with
 | nil => simp
 | cons a t => rw [List.takeWhile_cons_of_neg (by rw [show hx16 a = false from hR]; simp), List.append_nil]
theorem num_ext {l R' : List Nat} {x n : Nat} (h : numL l = some (x, n)) (hb : Behind (l.drop n) R') : numL (l.take n ++ R') = some (x, n) := by
 have hn := num_len h
 unfold numL at h
 by_cases ho : numO l (numR l) = true
 case neg =>
  rw [if_neg ho] at h
  cases h
 rw [if_pos ho] at h
 have hr : numR l = n := congrArg Prod.snd (Option.some.inj h)
 have hv : litV (l.take (numR l)) = x := congrArg Prod.fst (Option.some.inj h)
 rw [hr] at ho hv
 unfold numO at ho
 rw [Bool.and_eq_true, Bool.not_eq_true', Bool.or_eq_false_iff] at ho
 obtain ⟨o1, o2, o3⟩ := ho
 have p1 := hb.pt o2
 have p2 : (hd0 R' == 92) = false := by
  rcases hb with k | k
  ·rw [k]; exact o3
  ·rw [k]; rfl
 have hlen : (l.take n).length = n := by rw [List.length_take]; omega
 have key : numR (l.take n ++ R') = n := by
  have hsec : ∀ a b u, l = a :: b :: u → 2 ≤ n → ∃ v, l.take n ++ R' = a :: b :: v := by
   rintro a b u rfl h2
   obtain ⟨m, rfl⟩ : ∃ m, n = m + 2 := ⟨n - 2, by omega⟩
   exact ⟨u.take m ++ R', rfl⟩
  by_cases hx : hxA l = true
  ·have hr2 := hr
   unfold numR at hr2
   rw [if_pos hx] at hr2
   unfold hxA at hx
   cases l with
   | nil => simp at hx
   | cons a t =>
    cases t with
    | nil => simp at hx
    | cons b u =>
     have hu : (List.drop 2 (a :: b :: u)) = u := rfl
     rw [hu] at hr2
     obtain ⟨m, rfl⟩ : ∃ m, n = m + 2 := ⟨n - 2, by omega⟩
     have hm : (u.takeWhile hx16).length = m := by omega
     have hut : u.take m = u.takeWhile hx16 := by
      have e3 : u = u.takeWhile hx16 ++ u.dropWhile hx16 := List.takeWhile_append_dropWhile.symm
      obtain ⟨A, hA⟩ : ∃ A, u.takeWhile hx16 = A := ⟨_, rfl⟩
      obtain ⟨B, hB⟩ : ∃ B, u.dropWhile hx16 = B := ⟨_, rfl⟩
      rw [hA, hB] at e3
      rw [hA] at hm ⊢
      rw [e3, ← hm, List.take_left]
     have e : (a :: b :: u).take (m + 2) ++ R' = a :: b :: (u.takeWhile hx16 ++ R') := by rw [← hut]; rfl
     rw [e]
     unfold numR
     rw [if_pos (show hxA (a :: b :: (u.takeWhile hx16 ++ R')) = true from hx)]
     show 2 + ((u.takeWhile hx16 ++ R').takeWhile hx16).length = m + 2
     rw [take_hx (fun c hc => List.all_eq_true.1 List.all_takeWhile c hc) (pt_hx p1), hm]
     omega
  ·have hx2 : hxA (l.take n ++ R') = false := by
    cases hq : hxA (l.take n ++ R')
    ·rfl
    ·exfalso
     apply hx
     cases l with
     | nil => rw [List.length_nil] at hn; omega
     | cons a t =>
      obtain ⟨m, rfl⟩ : ∃ m, n = m + 1 := ⟨n - 1, by omega⟩
      rw [List.take_succ_cons, List.cons_append] at hq
      unfold hxA at hq ⊢
      rw [List.head?_cons, List.tail_cons] at hq ⊢
      cases m with
      | zero =>
       rw [List.take_zero, List.nil_append] at hq
       rw [List.drop_succ_cons, List.drop_zero] at hb o2
       rw [Bool.and_eq_true, Bool.or_eq_true, beq_iff_eq, beq_iff_eq, beq_iff_eq] at hq
       have hc : hd0 R' = 120 ∨ hd0 R' = 88 := by
        rcases hq.2 with k | k
        ·exact .inl (head_hd0 k)
        ·exact .inr (head_hd0 k)
       have k1 : ptN 120 = true ∧ ptN 88 = true := by decide +kernel
       rcases hc with k | k
       ·rw [k, k1.1] at p1; cases p1
       ·rw [k, k1.2] at p1; cases p1
      | succ m =>
       cases t with
       | nil => simp at hn
       | cons b u =>
        rw [List.take_succ_cons, List.cons_append, List.head?_cons] at hq
        rw [List.head?_cons]
        exact hq
   unfold numR
   rw [hx2, if_neg (by simp)]
   obtain ⟨X, hX⟩ := dT_suf l
   have hR : numR l = l.length - (dR l).length := by unfold numR; rw [if_neg hx]
   rw [hr] at hR
   have q0 : ∀ c, R'.head? = some c → dg10 c = false := fun c hc => by rw [← head_hd0 hc]; exact pt_dg p1
   obtain ⟨t, ht⟩ : ∃ t, dT l = t := ⟨_, rfl⟩
   cases hbx : expB t
   ·have hdR : dR l = t := by unfold dR exR; rw [ht, hbx, if_neg (by simp)]
    have hll := congrArg List.length hX
    rw [List.length_append, ht] at hll
    have hXn : X.length = n := by rw [hdR] at hR; omega
    have hl2 : l = X ++ t := by rw [← ht]; exact hX
    have htk : l.take n = X := by rw [hl2, ← hXn, List.take_left]
    have hdr : l.drop n = t := by rw [hl2, ← hXn, List.drop_left]
    rw [hdr] at hb o2
    have hdT : dT (X ++ R') = R' := by
     refine dT_app2 hX q0 ?_
     by_cases h46 : hd0 R' = 46
     ·left
      have h46' : hd0 t = 46 := by
       rcases hb with k | k
       ·rw [← k]; exact h46
       ·rw [h46] at k; omega
      cases hdb : dotB (aft10 l)
      ·exfalso
       have : dT l = aft10 l := by unfold dT; rw [hdb, if_neg (by simp)]
       rw [ht] at this
       obtain ⟨q, hq⟩ := hd0_get (by omega) h46'
       rw [← this, hq] at hdb
       cases hdb
      ·rfl
     ·right
      intro c hc hc2
      exact h46 ((head_hd0 hc).trans hc2)
    have hex : exR R' = R' := by
     unfold exR
     have : expB R' = false := by
      unfold expB
      have k1 : (R'.head? == some 101 || R'.head? == some 69) = false := by
       rw [Bool.or_eq_false_iff]
       constructor
       ·rw [beq_eq_false_iff_ne]
        intro k
        exact (pt_e p1).1 (head_hd0 k)
       ·rw [beq_eq_false_iff_ne]
        intro k
        exact (pt_e p1).2 (head_hd0 k)
      rw [k1, Bool.false_and]
     rw [this, if_neg (by simp)]
    rw [htk]
    unfold dR
    rw [hdT, hex, List.length_append, hXn]
    omega
   ·cases t with
    | nil => unfold expB at hbx; simp at hbx
    | cons c q =>
     have hbx2 := hbx
     unfold expB at hbx2
     rw [List.tail_cons, Bool.and_eq_true] at hbx2
     obtain ⟨s, hs, hs1⟩ := unsg_suf q
     have hra := run_aft (unsg q)
     obtain ⟨D, hD⟩ : ∃ D, run10 (unsg q) = D := ⟨_, rfl⟩
     obtain ⟨A, hA⟩ : ∃ A, aft10 (unsg q) = A := ⟨_, rfl⟩
     have hdR : dR l = A := by unfold dR exR; rw [ht, hbx, if_pos rfl]; exact hA
     rw [hD, hA] at hra
     have hDall : ∀ d ∈ D, dg10 d = true := by rw [← hD]; exact run10_all _
     have hl2 : l = (X ++ c :: (s ++ D)) ++ A := by
      have e1 : l = X ++ (c :: q) := by rw [← ht]; exact hX
      rw [e1]
      conv => lhs; rw [hs, ← hra]
      simp
     have hll := congrArg List.length hl2
     rw [List.length_append] at hll
     have hXn : (X ++ c :: (s ++ D)).length = n := by rw [hdR] at hR; omega
     have htk : l.take n = X ++ c :: (s ++ D) := by
      conv => lhs; rw [hl2]
      rw [← hXn, List.take_left]
     have hc : c = 101 ∨ c = 69 := by simpa using hbx2.1
     have hDne : D ≠ [] := by
      have := hbx2.2
      rw [hD] at this
      simpa using this
     have hdT : dT (X ++ (c :: (s ++ D) ++ R')) = c :: (s ++ D) ++ R' := dT_app hX (fun d hd => by
      have : d = c := by simpa using hd.symm
      subst this
      rcases hc with rfl | rfl <;> exact ⟨by decide, by omega⟩)
     have hun : unsg (s ++ D ++ R') = D ++ R' := by
      cases s with
      | nil =>
       cases D with
       | nil => exact absurd rfl hDne
       | cons d D2 =>
        have hd := dg10_iff.1 (hDall d (by simp))
        exact (unsg_digit (a := d) (t := D2 ++ R') rfl (by omega)).1
      | cons a s2 =>
       have hs2 : s2 = [] := List.eq_nil_of_length_eq_zero (by rw [List.length_cons] at hs1; omega)
       subst hs2
       by_cases hsg : a = 45 ∨ a = 43
       ·unfold unsg
        rw [if_pos (by rcases hsg with rfl | rfl <;> simp)]
        rfl
       ·exfalso
        have h1 : q.head? = some a := by rw [hs]; rfl
        have h2 : unsg q = q := by unfold unsg; rw [if_neg (by rw [h1]; simpa using hsg)]
        have h3 := congrArg List.length hs
        rw [h2, List.length_append, List.length_singleton] at h3
        omega
     obtain ⟨r1, r2⟩ := run_app (W := D) (r := R') hDall q0
     have hbe : expB (c :: (s ++ D) ++ R') = true := by
      unfold expB
      rw [List.cons_append, List.tail_cons, hun, r1]
      have h1 : ((c :: (s ++ D ++ R')).head? == some 101 || (c :: (s ++ D ++ R')).head? == some 69) = true := hbx2.1
      rw [h1, Bool.true_and]
      cases D with
      | nil => exact absurd rfl hDne
      | cons d D2 => rfl
     have hex : exR (c :: (s ++ D) ++ R') = R' := by
      unfold exR
      rw [hbe, if_pos rfl]
      unfold expR
      rw [List.cons_append, List.tail_cons, hun, r2]
     rw [htk, List.append_assoc]
     unfold dR
     rw [hdT, hex, ← List.append_assoc, List.length_append, hXn]
     omega
 have htk2 : (l.take n ++ R').take n = l.take n := by
  conv => lhs; rw [show n = (l.take n).length from hlen.symm]
  rw [hlen, List.take_append_of_le_length (by omega), List.take_take, Nat.min_self]
 have hdr2 : (l.take n ++ R').drop n = R' := by
  rw [List.drop_append_of_le_length (by omega), List.drop_take, Nat.sub_self, List.take_zero, List.nil_append]
 unfold numL
 rw [key]
 unfold numO
 rw [htk2, hdr2, o1, p1, p2, if_pos (by rfl), hv]
/-! ### Marks -/
theorem marks_closed : ∀ t ∈ marksL, ∀ k : Fin 4, 1 ≤ k.val → k.val ≤ t.length → t.take k.val ∈ marksL := by decide +kernel
theorem marks_low : ∀ t ∈ marksL, ∀ c ∈ t, c ≠ 32 ∧ c ≠ 0 := by decide +kernel
theorem mark_ext {l R' t : List Nat} (h : markL l = some t) (hb : Behind (l.drop t.length) R') : markL (l.take t.length ++ R') = some t := by
 obtain ⟨h1, h2, h3, h4, h5⟩ := mark_some h
 obtain ⟨m1, m2, m3⟩ := find_first marks_sorted h
 rw [h3]
 cases hq : markL (t ++ R') with
 | none =>
  have := List.find?_eq_none.1 hq t m1
  exact absurd (List.isPrefixOf_iff_prefix.2 (List.prefix_append t R')) this
 | some s =>
  obtain ⟨s1, s2, s3⟩ := find_first marks_sorted hq
  have hle := s3 t m1 (List.isPrefixOf_iff_prefix.2 (List.prefix_append t R'))
  obtain ⟨w0, hw0⟩ := List.isPrefixOf_iff_prefix.1 s2
  rcases Nat.lt_or_ge t.length s.length with hlt | hge
  ·exfalso
   have hsl := (marks_len s s1).2
   -- the mark with one unit more
   have hs' : s.take t.length = t := by
    have := congrArg (List.take t.length) hw0
    rw [List.take_append_of_le_length (by omega), List.take_left] at this
    exact this
   obtain ⟨c, w, hcw⟩ : ∃ c w, s.drop t.length = c :: w := by
    cases hd : s.drop t.length with
    | nil =>
     have := congrArg List.length hd
     rw [List.length_drop, List.length_nil] at this
     omega
    | cons c w => exact ⟨c, w, rfl⟩
   have hs2 : s = t ++ c :: w := by
    rw [← hs', ← hcw, List.take_append_drop]
   have hR : ∃ v, R' = c :: v := by
    rw [hs2, List.append_assoc] at hw0
    have := List.append_cancel_left hw0
    exact ⟨w ++ w0, this.symm⟩
   obtain ⟨v, rfl⟩ := hR
   have hlow := marks_low s s1 c (by rw [hs2]; simp)
   have hc : c = hd0 (l.drop t.length) := by
    rcases hb with k | k
    ·exact k
    ·exact absurd k hlow.1
   obtain ⟨r, hr⟩ := hd0_get hlow.2 hc.symm
   have hlt2 : t.length + 1 ≤ l.length := by
    have := congrArg List.length hr
    rw [List.length_drop, List.length_cons] at this
    omega
   have hl : l = t ++ c :: r := by
    rw [← hr]
    conv => lhs; rw [← List.take_append_drop t.length l]
    rw [h3]
   have hmem : t ++ [c] ∈ marksL := by
    rcases (show t.length + 1 < 4 ∨ t.length + 1 = s.length by omega) with k | k
    ·have := marks_closed s s1 ⟨t.length + 1, k⟩ (by show 1 ≤ t.length + 1; omega) (by show t.length + 1 ≤ s.length; omega)
     have e : s.take (t.length + 1) = t ++ [c] := by rw [hs2, List.take_length_add_append]; rfl
     rw [← e]
     exact this
    ·have : w = [] := by
      have := congrArg List.length hs2
      rw [List.length_append, List.length_cons] at this
      exact List.eq_nil_of_length_eq_zero (by omega)
     rw [hs2, this] at s1
     exact s1
   have := m3 (t ++ [c]) hmem (List.isPrefixOf_iff_prefix.2 ⟨r, by rw [hl]; simp⟩)
   rw [List.length_append, List.length_singleton] at this
   omega
  ·have hlen : s.length = t.length := by omega
   have : s = t := by
    have := congrArg (List.take t.length) hw0
    rw [List.take_append_of_le_length (by omega), List.take_left, List.take_of_length_le (by omega)] at this
    exact this
   rw [this]
/-! ### Tokens -/
theorem read_ext {l : List Nat} {k : Nat} {t : List Nat} {x : Nat} {e : Bool} {n : Nat} {R' : List Nat} (h : readL l = some (k, t, x, e, n)) (hl : l ≠ []) (hb : Behind (l.drop n) R') : readL (l.take n ++ R') = some (k, t, x, e, n) := by
 obtain ⟨h1, _, h3, _, _⟩ := read_len h
 have hn := h3 hl
 cases l with
 | nil => exact absurd rfl hl
 | cons c r =>
  obtain ⟨m, rfl⟩ : ∃ m, n = m + 1 := ⟨n - 1, by omega⟩
  have et : (c :: r).take (m + 1) ++ R' = c :: (r.take m ++ R') := rfl
  rw [readL] at h
  rw [et, readL, ← et]
  split at h
  ·rename_i h4
   rw [if_pos h4]
   cases hs : namL (c :: r) with
   | none => rw [hs] at h; cases h
   | some p =>
    obtain ⟨t1, e1, n1⟩ := p
    rw [hs] at h
    have hn1 : n1 = m + 1 := congrArg (fun p => p.2.2.2.2) (Option.some.inj h)
    have := nam_ext _ true (c :: r) t1 e1 n1 R' (((c :: r).take (m + 1) ++ R').length + 1) hs (by omega) (by rw [hn1]; exact hb) (by rw [List.length_append, List.length_take]; omega)
    rw [hn1] at this hs h
    have hnam : namL ((c :: r).take (m + 1) ++ R') = some (t1, e1, m + 1) := this
    rw [hnam]
    exact h
  ·rename_i h4
   rw [if_neg h4]
   split at h
   ·rename_i h5
    rw [if_pos h5]
    cases hs : strL c r with
    | none => rw [hs] at h; cases h
    | some p =>
     obtain ⟨t1, n1⟩ := p
     rw [hs] at h
     have hn1 : 1 + n1 = m + 1 := congrArg (fun p => p.2.2.2.2) (Option.some.inj h)
     have hn2 : n1 = m := by omega
     subst hn2
     rw [List.length_cons] at h1
     have := str_ext _ c r t1 n1 R' ((r.take n1 ++ R').length + 1) hs (by rw [List.length_append, List.length_take]; omega)
     have hstr : strL c (r.take n1 ++ R') = some (t1, n1) := this
     rw [hstr]
     exact h
   ·rename_i h5
    rw [if_neg h5]
    have hsec : (dg10 c || (c == 46 && dg10 (hd0 (r.take m ++ R')))) = (dg10 c || (c == 46 && dg10 (hd0 r))) ∨ (m = 0 ∧ dg10 c = false ∧ c = 46) := by
     cases m with
     | zero =>
      by_cases k1 : dg10 c = false ∧ c = 46
      ·exact .inr ⟨rfl, k1⟩
      ·left
       cases k2 : dg10 c
       ·rw [show (c == 46) = false by rw [beq_eq_false_iff_ne]; exact fun k => k1 ⟨k2, k⟩]
        simp
       ·simp
     | succ m =>
      left
      cases r with
      | nil => rw [List.length_singleton] at h1; omega
      | cons d q => rfl
    split at h
    ·rename_i h6
     cases hs : numL (c :: r) with
     | none => rw [hs] at h; cases h
     | some p =>
      obtain ⟨x1, n1⟩ := p
      rw [hs] at h
      have hn1 : n1 = m + 1 := congrArg (fun p => p.2.2.2.2) (Option.some.inj h)
      subst hn1
      have := num_ext hs hb
      rw [this]
      have h7 : (dg10 c || (c == 46 && dg10 (hd0 (r.take m ++ R')))) = true := by
       rcases hsec with k | ⟨rfl, k2, rfl⟩
       ·rw [k]; exact h6
       ·exfalso
        -- a point alone is no number
        unfold numL at hs
        split at hs
        ·rename_i ho
         have hr : numR (46 :: r) = 0 + 1 := congrArg Prod.snd (Option.some.inj hs)
         rw [hr] at ho
         unfold numO at ho
         rw [show List.take (0 + 1) (46 :: r) = [46] from rfl, show litB [46] = false by decide, Bool.false_and] at ho
         cases ho
        ·cases hs
      rw [if_pos h7]
      exact h
    ·rename_i h6
     cases hs : markL (c :: r) with
     | none => rw [hs] at h; cases h
     | some t1 =>
      rw [hs] at h
      have hn1 : t1.length = m + 1 := congrArg (fun p => p.2.2.2.2) (Option.some.inj h)
      have := mark_ext hs (by rw [hn1]; exact hb)
      rw [hn1] at this
      rw [this]
      have h7 : ¬ (dg10 c || (c == 46 && dg10 (hd0 (r.take m ++ R')))) = true := by
       rcases hsec with k | ⟨rfl, k2, rfl⟩
       ·rw [k]; exact h6
       ·rw [k2]
        rw [List.take_zero, List.nil_append]
        have k3 : dg10 (hd0 r) = false := by
         rw [k2] at h6
         simpa using h6
        have k4 : dg10 (hd0 R') = false := by
         rcases hb with k | k
         ·rw [k]; exact k3
         ·rw [k]; exact pt_32.2.1
        rw [k4]
        simp
      rw [if_neg h7]
      exact h


end Go.Proofs.YtjmplgbhjpldbaaGreatDoor
namespace Go.Proofs.YtjmplgbhjpldbaaGreatDoor
theorem com_ext : ∀ {l : List Nat} {n : Nat} {b : Bool} (W : List Nat), comL l = some (n, b) → comL (l ++ W) = some (n, b)
 | [], _, _, _, h => by cases h
 | c :: r, n, b, W, h => by
  rw [comL] at h
  rw [List.cons_append, comL]
  split at h
  ·rename_i hc
   obtain ⟨q, hq⟩ := hd0_get (by omega) hc.2
   rw [if_pos ⟨hc.1, by rw [hq]; rfl⟩]
   exact h
  ·rename_i hc
   cases hr : comL r with
   | none => rw [hr] at h; cases h
   | some p =>
    rw [hr] at h
    rw [com_ext W hr, if_neg]
    ·exact h
    ·rintro ⟨h1, h2⟩
     cases r with
     | nil => cases hr
     | cons a t => exact hc ⟨h1, h2⟩
theorem rem_ext {l W : List Nat} (h : remL l < l.length) : remL (l ++ W) = remL l := by
 unfold remL at *
 induction l with
 | nil => simp at h
 | cons c r ih =>
  rw [List.cons_append, List.takeWhile_cons, List.takeWhile_cons]
  rw [List.takeWhile_cons] at h
  split
  ·rename_i hc
   rw [if_pos hc, List.length_cons, List.length_cons] at h
   rw [List.length_cons, List.length_cons, ih (by omega)]
  ·rfl
theorem rem_full {l : List Nat} (h : remL l = l.length) : ∀ c ∈ l, (fun c => !enN c) c = true := by
 have e : l.takeWhile (fun c => !enN c) = l := (List.takeWhile_sublist _).eq_of_length h
 intro c hc
 rw [← e] at hc
 exact List.all_eq_true.1 List.all_takeWhile c hc
theorem rem_app {l W : List Nat} (h : remL l = l.length) : remL (l ++ W) = l.length + remL W := by
 unfold remL
 rw [List.takeWhile_append_of_pos (rem_full h), List.length_append]
theorem rem_non {W : List Nat} (hW : ∀ c ∈ W, enN c = false) : remL W = W.length := by
 have e := List.takeWhile_append_of_pos (l₂ := ([] : List Nat)) (fun c hc => show (!enN c) = true by rw [hW c hc]; rfl)
 rw [List.append_nil] at e
 unfold remL
 rw [e]
 simp
theorem gap_ext {G W : List Nat} {n : Nat} {b : Bool} (h : gapL G = some (n + 1, b)) : gapL (G ++ W) = some (n + 1, b) ∨ (n + 1 = G.length ∧ ((∀ c ∈ W, enN c = false) → gapL (G ++ W) = some (n + 1 + W.length, b)) ∧ ∀ (Y : List Nat) (b' : Bool), gapL (G ++ Y) = some (n + 1, b') → Y = [] ∨ enN (hd0 Y) = true) := by
 cases G with
 | nil => cases h
 | cons c r =>
  rw [gapL] at h
  rw [List.cons_append, gapL]
  split at h
  ·rename_i h1
   left
   rw [if_pos h1]
   exact h
  ·rename_i h1
   rw [if_neg h1]
   split at h
   ·rename_i h2
    left
    rw [if_pos h2]
    exact h
   ·rename_i h2
    rw [if_neg h2]
    split at h
    ·rename_i h3
     obtain ⟨q, rfl⟩ := hd0_get (by omega) h3.2
     have h5 : 2 + remL q = n + 1 := congrArg Prod.fst (Option.some.inj h)
     have h6 : false = b := congrArg Prod.snd (Option.some.inj h)
     rw [List.cons_append, if_pos ⟨h3.1, hd0_cons _ _⟩, List.tail_cons]
     have hle := rem_le q
     rcases Nat.lt_or_ge (remL q) q.length with h7 | h7
     ·left
      rw [rem_ext h7, h5, ← h6]
     ·right
      refine ⟨by simp only [List.length_cons]; omega, fun hW => ?_, fun Y b' hY => ?_⟩
      ·rw [rem_app (by omega), rem_non hW, ← h6]
       congr 2
       omega
      ·rw [List.cons_append, List.cons_append, gapL, if_neg h1, if_neg h2, if_pos ⟨h3.1, hd0_cons _ _⟩, List.tail_cons, rem_app (by omega)] at hY
       have h8 : 2 + (q.length + remL Y) = n + 1 := congrArg Prod.fst (Option.some.inj hY)
       cases Y with
       | nil => exact .inl rfl
       | cons y Y =>
        right
        cases hy : enN y
        ·exfalso
         have : remL (y :: Y) ≠ 0 := by
          unfold remL
          rw [List.takeWhile_cons, hy]
          simp
         omega
        ·exact hy
    ·rename_i h3
     split at h
     ·rename_i h4
      obtain ⟨q, rfl⟩ := hd0_get (by omega) h4.2
      left
      rw [List.tail_cons] at h
      rw [List.cons_append, if_neg (by rintro ⟨_, h7⟩; rw [hd0_cons] at h7; omega), if_pos ⟨h4.1, hd0_cons _ _⟩, List.tail_cons]
      cases hr : comL q with
      | none => rw [hr] at h; cases h
      | some p =>
       rw [hr] at h
       rw [com_ext W hr]
       exact h
     ·cases h
def spc (b : Bool) : List Nat := if b = true then [32, 9] else []
theorem spc_en (b : Bool) : ∀ c ∈ spc b, enN c = false := by
 cases b <;> decide
theorem skip_spc {Z : List Nat} {z : Bool} (hZ : gapL Z = some (0, z)) (b : Bool) (g : Nat) (hg : (spc b ++ Z).length < g) : skipF g (spc b ++ Z) = ((spc b).length, false, true) := by
 have base : ∀ g, Z.length < g → skipF g Z = (0, false, true) := by
  intro g hg
  obtain ⟨k, rfl⟩ : ∃ k, g = k + 1 := ⟨g - 1, by omega⟩
  rw [skipF, hZ]
 cases b
 ·exact base g hg
 ·obtain ⟨k, rfl⟩ : ∃ k, g = k + 3 := ⟨g - 3, by simp [spc] at hg; omega⟩
  have h1 : gapL (32 :: 9 :: Z) = some (0 + 1, false) := by
   rw [gapL, show enN 32 = false by decide, if_neg (by simp), show spN 32 = true by decide, if_pos rfl]
  have h2 : gapL (9 :: Z) = some (0 + 1, false) := by
   rw [gapL, show enN 9 = false by decide, if_neg (by simp), show spN 9 = true by decide, if_pos rfl]
  show skipF (k + 3) (32 :: 9 :: Z) = (2, false, true)
  rw [skipF, h1]
  show (0 + 1 + (skipF (k + 2) (9 :: Z)).1, false || (skipF (k + 2) (9 :: Z)).2.1, (skipF (k + 2) (9 :: Z)).2.2) = _
  rw [skipF, h2]
  show (0 + 1 + (0 + 1 + (skipF (k + 1) Z).1), false || (false || (skipF (k + 1) Z).2.1), (skipF (k + 1) Z).2.2) = _
  rw [base (k + 1) (by simp [spc] at hg; omega)]
  rfl
theorem skip_ext : ∀ (f : Nat) (l Z : List Nat) (z b : Bool) (g : Nat), (skipF f l).2.2 = true → l.length < f → gapL Z = some (0, z) → (l.drop (skipF f l).1 = [] → Z = []) → (l.take (skipF f l).1 ++ (spc b ++ Z)).length < g →
  skipF g (l.take (skipF f l).1 ++ (spc b ++ Z)) = ((skipF f l).1 + (spc b).length, (skipF f l).2.1, true)
 | 0, _, _, _, _, _, _, hf, _, _, _ => by omega
 | f + 1, l, Z, z, b, g, h, hf, hZ, hd, hg => by
  cases hq : gapL l with
  | none =>
   have hV : skipF (f + 1) l = (0, false, false) := by rw [skipF, hq]
   rw [hV] at h
   cases h
  | some p =>
   obtain ⟨n, b1⟩ := p
   cases n with
   | zero =>
    have hV : skipF (f + 1) l = (0, false, true) := by rw [skipF, hq]
    rw [hV] at hg ⊢
    rw [List.take_zero, List.nil_append] at hg ⊢
    rw [skip_spc hZ b g hg, Nat.zero_add]
   | succ n =>
    have hV : skipF (f + 1) l = (n + 1 + (skipF f (l.drop (n + 1))).1, b1 || (skipF f (l.drop (n + 1))).2.1, (skipF f (l.drop (n + 1))).2.2) := by rw [skipF, hq]
    obtain ⟨S, hS⟩ : ∃ S, skipF f (l.drop (n + 1)) = S := ⟨_, rfl⟩
    have hSle := skipF_le f (l.drop (n + 1))
    have hle := gap_le hq
    rw [hV] at h hd hg ⊢
    have ih := fun g' => skip_ext f (l.drop (n + 1)) Z z b g' h (by rw [List.length_drop]; omega) hZ
    rw [hS] at h hd hg ih hSle ⊢
    rw [List.length_drop] at hSle
    simp only at h hd hg ⊢
    have hgt := gap_take (m := n + 1 + S.1) hq (by omega)
    obtain ⟨k, rfl⟩ : ∃ k, g = k + 1 := ⟨g - 1, by omega⟩
    have hG : (l.take (n + 1 + S.1)).length = n + 1 + S.1 := by rw [List.length_take]; omega
    have hdrop : (l.take (n + 1 + S.1) ++ (spc b ++ Z)).drop (n + 1) = (l.drop (n + 1)).take S.1 ++ (spc b ++ Z) := by
     rw [List.drop_append_of_le_length (by omega), List.drop_take, show n + 1 + S.1 - (n + 1) = S.1 by omega]
    have step : gapL (l.take (n + 1 + S.1) ++ (spc b ++ Z)) = some (n + 1, b1) → skipF (k + 1) (l.take (n + 1 + S.1) ++ (spc b ++ Z)) = (n + 1 + S.1 + (spc b).length, b1 || S.2.1, true) := by
     intro hgo
     have hlen : n + 1 ≤ (l.take (n + 1 + S.1) ++ (spc b ++ Z)).length := by
      rw [List.length_append, hG]
      omega
     have hI := ih k (fun hx => hd (by rw [← List.drop_drop]; exact hx)) (by
      have := congrArg List.length hdrop
      rw [List.length_drop] at this
      omega)
     rw [skipF, hgo]
     show (n + 1 + (skipF k ((l.take (n + 1 + S.1) ++ (spc b ++ Z)).drop (n + 1))).1, b1 || (skipF k ((l.take (n + 1 + S.1) ++ (spc b ++ Z)).drop (n + 1))).2.1, (skipF k ((l.take (n + 1 + S.1) ++ (spc b ++ Z)).drop (n + 1))).2.2) = _
     rw [hdrop, hI]
     simp only [Nat.add_assoc]
    rcases gap_ext (W := spc b ++ Z) hgt with hx | ⟨hx1, hx2, hx3⟩
    ·exact step hx
    ·-- all that is ahead ends here
     have hS0 : S.1 = 0 := by omega
     by_cases hnil : l.drop (n + 1 + S.1) = []
     ·have hZ0 := hd hnil
      subst hZ0
      rw [List.append_nil] at hx2 hg ⊢
      have hgo := hx2 (spc_en b)
      have hS2 : S.2.1 = false := by
       have e0 : l.drop (n + 1) = [] := by rw [← hnil, hS0]
       rw [e0] at hS
       cases f with
       | zero => rw [← hS]; rfl
       | succ f => rw [← hS]; rfl
      have hd2 : (l.take (n + 1 + S.1) ++ spc b).drop (n + 1 + (spc b).length) = [] := by
       rw [List.drop_eq_nil_iff, List.length_append, hG]
       omega
      have hk : ∀ k, skipF k ([] : List Nat) = (0, false, true) := by
       intro k
       cases k <;> rfl
      have e2 : n + 1 + (spc b).length = (n + (spc b).length) + 1 := by omega
      rw [e2] at hgo hd2
      rw [skipF, hgo]
      show (n + (spc b).length + 1 + (skipF k ((l.take (n + 1 + S.1) ++ spc b).drop (n + (spc b).length + 1))).1, b1 || (skipF k ((l.take (n + 1 + S.1) ++ spc b).drop (n + (spc b).length + 1))).2.1, (skipF k ((l.take (n + 1 + S.1) ++ spc b).drop (n + (spc b).length + 1))).2.2) = _
      rw [hd2, hk k, hS2, hS0]
      exact Prod.ext (by show n + (spc b).length + 1 + 0 = n + 1 + 0 + (spc b).length; omega) rfl
     ·-- else the line's end would stand there, too
      exfalso
      have hl : l.take (n + 1 + S.1) ++ l.drop (n + 1 + S.1) = l := List.take_append_drop _ _
      rcases hx3 (l.drop (n + 1 + S.1)) b1 (by rw [hl]; exact hq) with h1 | h1
      ·exact hnil h1
      ·rw [hS0, Nat.add_zero] at h1 hnil
       cases hY : l.drop (n + 1) with
       | nil => exact hnil hY
       | cons y Y =>
        rw [hY] at h1 hS
        have hf1 : f ≠ 0 := by
         have := congrArg List.length hY
         rw [List.length_drop, List.length_cons] at this
         omega
        obtain ⟨f', rfl⟩ : ∃ f', f = f' + 1 := ⟨f - 1, by omega⟩
        have hgy : gapL (y :: Y) = some (0 + 1, true) := by rw [gapL, if_pos (show enN y = true from h1)]
        rw [skipF, hgy] at hS
        have : 0 + 1 + (skipF f' ((y :: Y).drop (0 + 1))).1 = S.1 := congrArg Prod.fst hS
        omega


end Go.Proofs.YtjmplgbhjpldbaaGreatDoor
namespace Go.Proofs.YtjmplgbhjpldbaaGreatDoor
def reb (o : Nat) (u : List Nat) : Nat → Nat → List Tok → List Nat
 | _, _, [] => []
 | i, p, k :: ts => (u.drop p).take (k.pos - p) ++ (spc (decide ((o + i) % 3 = 0)) ++ ((u.drop k.pos).take (k.fin - k.pos) ++ reb o u (i + 1) k.fin ts))
def sameT (a b : Tok) : Prop := a.kind = b.kind ∧ a.text = b.text ∧ a.num = b.num ∧ a.esc = b.esc ∧ a.nl = b.nl
inductive SameL : List Tok → List Tok → Prop
 | nil : SameL [] []
 | cons {a b : Tok} {l m : List Tok} : sameT a b → SameL l m → SameL (a :: l) (b :: m)
theorem hd0_app {A B : List Nat} (h : A ≠ []) : hd0 (A ++ B) = hd0 A := by
 cases A with
 | nil => exact absurd rfl h
 | cons a t => rfl
theorem hd0_take {l : List Nat} {n : Nat} (h : l.take n ≠ []) : hd0 (l.take n) = hd0 l := by
 cases l with
 | nil => rw [List.take_nil]
 | cons a t =>
  cases n with
  | zero => exact absurd rfl h
  | succ n => rfl
theorem reb_head (o : Nat) (u : List Nat) (i p : Nat) (ts : List Tok) (h : StandsL u p ts) : Behind (u.drop p) (reb o u i p ts) := by
 cases ts with
 | nil => exact h.elim
 | cons k ts =>
  obtain ⟨h1, h2, h3, h4, _, h5⟩ := h
  rw [reb]
  by_cases hg : (u.drop p).take (k.pos - p) = []
  ·rw [hg, List.nil_append]
   have hp : k.pos = p ∨ u.length ≤ p := by
    have := congrArg List.length hg
    rw [List.length_take, List.length_drop, List.length_nil] at this
    omega
   have hpp : k.pos = p := by
    rcases hp with hp | hp
    ·exact hp
    ·omega
   cases hb : decide ((o + i) % 3 = 0)
   ·show Behind _ ([] ++ _)
    rw [List.nil_append, hpp]
    by_cases ht : (u.drop p).take (k.fin - p) = []
    ·have hk : k.fin = k.pos := by
      have := congrArg List.length ht
      rw [List.length_take, List.length_drop, List.length_nil] at this
      omega
     rcases h5 with ⟨_, rfl, h6⟩ | ⟨h6, _⟩
     ·rw [ht, List.nil_append, reb]
      left
      rw [show u.drop p = [] from List.drop_eq_nil_iff.2 (by omega)]
     ·exact absurd (h4.1 hk) h6
    ·left
     rw [hd0_app ht, hd0_take ht]
   ·right
    rfl
  ·left
   rw [hd0_app hg, hd0_take hg]
theorem skip_stop : ∀ (f : Nat) (l : List Nat), l.length < f → (skipF f l).2.2 = true → ∃ z, gapL (l.drop (skipF f l).1) = some (0, z)
 | 0, _, h, _ => by omega
 | f + 1, l, hf, h => by
  cases hq : gapL l with
  | none =>
   have hV : skipF (f + 1) l = (0, false, false) := by rw [skipF, hq]
   rw [hV] at h
   cases h
  | some p =>
   obtain ⟨n, b⟩ := p
   cases n with
   | zero =>
    have hV : skipF (f + 1) l = (0, false, true) := by rw [skipF, hq]
    rw [hV]
    exact ⟨b, hq⟩
   | succ n =>
    have hV : skipF (f + 1) l = (n + 1 + (skipF f (l.drop (n + 1))).1, b || (skipF f (l.drop (n + 1))).2.1, (skipF f (l.drop (n + 1))).2.2) := by rw [skipF, hq]
    have hle := gap_le hq
    rw [hV] at h ⊢
    have ih := skip_stop f (l.drop (n + 1)) (by rw [List.length_drop]; omega) h
    rw [List.drop_drop] at ih
    exact ih
theorem gap_stop {d : List Nat} {z : Bool} (h : gapL d = some (0, z)) {n : Nat} (hn : 1 ≤ n ∨ d = []) {R' : List Nat} (hb : Behind (d.drop n) R') (hR : d = [] → R' = []) : gapL (d.take n ++ R') = some (0, false) := by
 cases d with
 | nil =>
  rw [hR rfl, List.take_nil]
  rfl
 | cons c r =>
  have hn1 : 1 ≤ n := by
   rcases hn with hn | hn
   ·exact hn
   ·cases hn
  obtain ⟨m, rfl⟩ : ∃ m, n = m + 1 := ⟨n - 1, by omega⟩
  rw [List.take_succ_cons, List.cons_append]
  rw [gapL] at h
  rw [gapL]
  split at h
  ·cases h
  ·rename_i h1
   rw [if_neg h1]
   split at h
   ·cases h
   ·rename_i h2
    rw [if_neg h2]
    have hh : hd0 (r.take m ++ R') = hd0 r ∨ hd0 (r.take m ++ R') = 32 := by
     by_cases hm : r.take m = []
     ·have hm2 : m = 0 ∨ r = [] := by
       cases m with
       | zero => exact .inl rfl
       | succ m =>
        right
        cases r with
        | nil => rfl
        | cons a t => cases hm
      rw [hm, List.nil_append]
      rw [List.drop_succ_cons] at hb
      rcases hm2 with rfl | rfl
      ·exact hb
      ·rw [List.drop_nil] at hb
       exact hb
     ·left
      rw [hd0_app hm, hd0_take hm]
    split at h
    ·have : 2 + remL r.tail = 0 := congrArg Prod.fst (Option.some.inj h)
     omega
    ·rename_i h3
     split at h
     ·cases hc : comL r.tail with
      | none => rw [hc] at h; cases h
      | some q =>
       rw [hc] at h
       have : 2 + q.1 = 0 := congrArg Prod.fst (Option.some.inj h)
       omega
     ·rename_i h4
      rw [if_neg, if_neg]
      ·rintro ⟨k1, k2⟩
       rcases hh with k | k
       ·exact h4 ⟨k1, k ▸ k2⟩
       ·omega
      ·rintro ⟨k1, k2⟩
       rcases hh with k | k
       ·exact h3 ⟨k1, k ▸ k2⟩
       ·omega
theorem all_apart (o : Nat) (u : List Nat) : ∀ (f p q : Nat) (ts : List Tok) (i : Nat), p ≤ u.length → allF f p (u.drop p) = (q, some ts) →
  ∃ F : Nat → List Tok, ∀ p', SameL ts (F p') ∧ ∀ g, (reb o u i p ts).length < g → allF g p' (reb o u i p ts) = (0, some (F p'))
 | 0, _, _, _, _, _, h => by
  rw [allF] at h
  cases congrArg Prod.snd h
 | f + 1, p, q, ts, i, hp, h => by
  have hst := all_stands u (f + 1) p q ts hp h
  rw [allF] at h
  obtain ⟨s, hs⟩ : ∃ s, skipL (u.drop p) = s := ⟨_, rfl⟩
  have hle := skipL_le (u.drop p)
  rw [List.length_drop] at hle
  rw [hs] at h hle
  split at h
  ·cases congrArg Prod.snd h
  rename_i hok
  have hok' : s.2.2 = true := by simpa using hok
  cases hr : readL ((u.drop p).drop s.1) with
  | none =>
   rw [hr] at h
   cases congrArg Prod.snd h
  | some v =>
   obtain ⟨k, t, x, e, n⟩ := v
   rw [hr] at h
   simp only at h
   obtain ⟨d, hd⟩ : ∃ d, (u.drop p).drop s.1 = d := ⟨_, rfl⟩
   rw [hd] at hr
   obtain ⟨r1, r2, r3, _, _⟩ := read_len hr
   have hstop : ∃ z, gapL d = some (0, z) := by
    have := skip_stop _ (u.drop p) (Nat.lt_succ_self _) (by
     show (skipL (u.drop p)).2.2 = true
     rw [hs]; exact hok')
    have e2 : (skipF ((u.drop p).length + 1) (u.drop p)).1 = s.1 := congrArg Prod.fst hs
    rw [e2, hd] at this
    exact this
   obtain ⟨z, hz⟩ := hstop
   have hdu : d = u.drop (p + s.1) := by rw [← hd, List.drop_drop]
   have hdl : d.length = u.length - (p + s.1) := by rw [hdu, List.length_drop]
   -- the token's own step, for whatever stands behind it
   have main : ∀ (rest : List Tok) (F : Nat → List Tok), ts = ⟨k, t, x, e, s.2.1, p + s.1, p + s.1 + n⟩ :: rest →
     Behind (d.drop n) (reb o u (i + 1) (p + s.1 + n) rest) → (d = [] → reb o u (i + 1) (p + s.1 + n) rest = []) →
     (∀ p', (k = 1 → F p' = []) ∧ SameL rest (F p') ∧ (k ≠ 1 → ∀ g, (reb o u (i + 1) (p + s.1 + n) rest).length < g → allF g p' (reb o u (i + 1) (p + s.1 + n) rest) = (0, some (F p')))) →
     ∃ F : Nat → List Tok, ∀ p', SameL ts (F p') ∧ ∀ g, (reb o u i p ts).length < g → allF g p' (reb o u i p ts) = (0, some (F p')) := by
    intro rest F hts hb hR hF
    obtain ⟨R', hR'⟩ : ∃ R', reb o u (i + 1) (p + s.1 + n) rest = R' := ⟨_, rfl⟩
    rw [hR'] at hb hR hF
    obtain ⟨b, hbb⟩ : ∃ b, decide ((o + i) % 3 = 0) = b := ⟨_, rfl⟩
    have hreb : reb o u i p ts = (u.drop p).take s.1 ++ (spc b ++ (d.take n ++ R')) := by
     rw [hts, reb, hbb, hR']
     show (u.drop p).take (p + s.1 - p) ++ (spc b ++ ((u.drop (p + s.1)).take (p + s.1 + n - (p + s.1)) ++ R')) = _
     rw [show p + s.1 - p = s.1 by omega, show p + s.1 + n - (p + s.1) = n by omega, ← hdu]
    have hgz := gap_stop (n := n) hz (by
     by_cases hdn : d = []
     ·exact .inr hdn
     ·exact .inl (r3 hdn)) hb hR
    have hZnil : (u.drop p).drop s.1 = [] → d.take n ++ R' = [] := by
     intro hx
     rw [hd] at hx
     rw [hx, List.take_nil, hR hx]
     rfl
    refine ⟨fun p' => ⟨k, t, x, e, s.2.1, p' + (s.1 + (spc b).length), p' + (s.1 + (spc b).length) + n⟩ :: F (p' + (s.1 + (spc b).length) + n), fun p' => ⟨?_, ?_⟩⟩
    ·rw [hts]
     exact .cons ⟨rfl, rfl, rfl, rfl, rfl⟩ (hF _).2.1
    ·intro g hg
     rw [hreb] at hg ⊢
     obtain ⟨g', rfl⟩ : ∃ g', g = g' + 1 := ⟨g - 1, by omega⟩
     have e1 : (skipF ((u.drop p).length + 1) (u.drop p)) = s := hs
     have hskip : skipL ((u.drop p).take s.1 ++ (spc b ++ (d.take n ++ R'))) = (s.1 + (spc b).length, s.2.1, true) := by
      have := skip_ext _ (u.drop p) (d.take n ++ R') false b (((u.drop p).take s.1 ++ (spc b ++ (d.take n ++ R'))).length + 1) (by rw [e1]; exact hok') (Nat.lt_succ_self _) hgz (by rw [e1]; exact hZnil) (by rw [e1]; exact Nat.lt_succ_self _)
      rw [e1] at this
      exact this
     have htk : ((u.drop p).take s.1).length = s.1 := by rw [List.length_take, List.length_drop]; omega
     have hdrop : ((u.drop p).take s.1 ++ (spc b ++ (d.take n ++ R'))).drop (s.1 + (spc b).length) = d.take n ++ R' := by
      rw [← List.append_assoc]
      have hl2 : ((u.drop p).take s.1 ++ spc b).length = s.1 + (spc b).length := by rw [List.length_append, htk]
      rw [← hl2, List.drop_left]
     have hread : readL (d.take n ++ R') = some (k, t, x, e, n) := by
      by_cases hdn : d = []
      ·have hk1 := r2.2 hdn
       rw [hdn] at hr
       rw [hdn, List.take_nil, hR hdn]
       exact hr
      ·exact read_ext hr hdn hb
     rw [allF, hskip]
     simp only
     rw [if_neg (by simp), hdrop, hread]
     simp only
     by_cases hk : k = 1
     ·rw [if_pos hk, (hF _).1 hk]
     ·rw [if_neg hk]
      have hdn : d ≠ [] := fun hx => hk (r2.2 hx)
      have hdrop2 : ((u.drop p).take s.1 ++ (spc b ++ (d.take n ++ R'))).drop (s.1 + (spc b).length + n) = R' := by
       rw [← List.drop_drop, hdrop]
       have hl3 : (d.take n).length = n := by rw [List.length_take]; omega
       conv => lhs; rw [← hl3]
       rw [hl3]
       have := List.drop_left (l₁ := d.take n) (l₂ := R')
       rw [hl3] at this
       exact this
      have hlen : R'.length < g' := by
       rw [List.length_append, List.length_append, List.length_append, htk] at hg
       have hl3 : (d.take n).length = n := by rw [List.length_take]; omega
       have := r3 hdn
       omega
      rw [hdrop2, (hF _).2.2 hk g' hlen]
   split at h
   ·rename_i hk
    have hts : ts = [⟨k, t, x, e, s.2.1, p + s.1, p + s.1 + n⟩] := (Option.some.inj (congrArg Prod.snd h)).symm
    have hdn := r2.1 hk
    refine main [] (fun _ => []) hts ?_ (fun _ => rfl) (fun p' => ⟨fun _ => rfl, .nil, fun h2 => absurd hk h2⟩)
    left
    rw [hdn, List.drop_nil]
    rfl
   ·rename_i hk
    cases ha : allF f (p + s.1 + n) ((u.drop p).drop (s.1 + n)) with
    | mk q2 o2 =>
     rw [ha] at h
     cases o2 with
     | none => cases congrArg Prod.snd h
     | some rest =>
      have hts : ts = ⟨k, t, x, e, s.2.1, p + s.1, p + s.1 + n⟩ :: rest := (Option.some.inj (congrArg Prod.snd h)).symm
      rw [List.drop_drop, ← Nat.add_assoc] at ha
      have hst2 := all_stands u f (p + s.1 + n) q2 rest (by omega) ha
      obtain ⟨F, hF⟩ := all_apart o u f (p + s.1 + n) q2 rest (i + 1) (by omega) ha
      refine main rest F hts ?_ (fun hx => absurd (r2.2 hx) hk) (fun p' => ⟨fun h2 => absurd h2 hk, (hF p').1, fun _ => (hF p').2⟩)
      have := reb_head o u (i + 1) (p + s.1 + n) rest hst2
      rw [hdu, List.drop_drop]
      exact this


end Go.Proofs.YtjmplgbhjpldbaaGreatDoor
namespace Go.Proofs.YtjmplgbhjpldbaaGreatDoor
open Go.RowKit
theorem lit_le (l : List Nat) : litV l ≤ 9218868437227405312 := by
 have h : ∀ N e, decR N e ≤ 9218868437227405312 := fun N e => Nat.min_le_right _ _
 unfold litV natV dV
 split
 ·exact h _ _
 ·split
  ·exact h _ _
  ·exact Nat.zero_le _
theorem ord_le {x : Nat} (h : x ≤ 9218868437227405312) : (FloatKind.f64.format.order x x == some .eq) = true := by
 have h1 := ord_self x
 have h2 : fnan x = false := by
  unfold fnan
  have : rung x = x := by
   unfold rung
   rw [Nat.mod_eq_of_lt (by omega)]
  rw [this]
  simpa using h
 rw [h2] at h1
 simpa using h1
theorem read_numT {l t : List Nat} {k x n : Nat} {e : Bool} (h : readL l = some (k, t, x, e, n)) : (FloatKind.f64.format.order x x == some .eq) = true := by
 apply ord_le
 cases l with
 | nil => cases h; exact Nat.zero_le _
 | cons c r =>
  rw [readL] at h
  split at h
  ·cases hn : namL (c :: r) with
   | none => rw [hn] at h; cases h
   | some p => rw [hn] at h; cases h; exact Nat.zero_le _
  ·split at h
   ·cases hn : strL c r with
    | none => rw [hn] at h; cases h
    | some p => rw [hn] at h; cases h; exact Nat.zero_le _
   ·split at h
    ·unfold numL at h
     split at h
     ·cases h
      exact lit_le _
     ·cases h
    ·cases hn : markL (c :: r) with
     | none => rw [hn] at h; cases h
     | some p => rw [hn] at h; cases h; exact Nat.zero_le _
theorem nxt_num {p q : Nat} {l : List Nat} {t : Tok} (h : nxtL p l = (q, some t)) : (FloatKind.f64.format.order t.num t.num == some .eq) = true := by
 unfold nxtL at h
 split at h
 ·cases h
 ·split at h
  ·cases h
  ·rename_i k tx x e n hr
   cases h
   exact read_numT hr
theorem all_num : ∀ (f p q : Nat) (l : List Nat) (ts : List Tok), l.length < f → allG p l = (q, some ts) → ∀ t ∈ ts, (FloatKind.f64.format.order t.num t.num == some .eq) = true
 | 0, _, _, _, _, h, _ => by omega
 | f + 1, p, q, l, ts, hl, h => by
  rw [all_next] at h
  rcases hn : nxtL p l with ⟨q1, _ | k⟩
  ·rw [hn] at h
   cases h
  ·rw [hn] at h
   simp only [] at h
   have hk := nxt_num hn
   split at h
   ·cases h
    intro t ht
    simp at ht
    subst ht
    exact hk
   ·rename_i hk1
    have hlt := nxt_lt hn hk1
    have hle := (nxt_in hn).2.2.1
    rcases ha : allG k.fin (l.drop (k.fin - p)) with ⟨q2, _ | us⟩
    ·rw [ha] at h
     cases h
    ·rw [ha] at h
     cases h
     intro t ht
     rcases List.mem_cons.1 ht with rfl | ht
     ·exact hk
     ·exact all_num f k.fin q2 _ us (by rw [List.length_drop]; omega) ha t ht
theorem bytes_app (a b : List Nat) : (⟨(bL a).toArray⟩ : ByteArray) ++ ⟨(bL b).toArray⟩ = ⟨(bL (a ++ b)).toArray⟩ := by
 apply ByteArray.ext
 apply Array.toList_inj.1
 rw [bL_append]
 simp
theorem bytes_size (a : List Nat) : (⟨(bL a).toArray⟩ : ByteArray).size = 2 * a.length := by
 show (bL a).toArray.size = _
 rw [List.size_toArray, bL_length]
def CellsT (g : Nat) (C : List Tok) (w : World) : Prop := (∀ q t k x, C[q]? = some t → k < 7 → (tkC t)[k]? = some x → w.cell? ⟨g, q * 7 + k, none⟩ = some x) ∧ ∀ a, w.frozen? ⟨g, a, none⟩ = false
theorem CellsT.below {g : Nat} {C : List Tok} {w w' : World} (h : CellsT g C w) {B : Nat} (hg : g < B) (hb : Below B w w') : CellsT g C w' :=
 ⟨fun q t k x h1 h2 h3 => (hb.cell (p := ⟨g, q * 7 + k, none⟩) hg).trans (h.1 q t k x h1 h2 h3), fun a => (hb.frozen (p := ⟨g, a, none⟩) hg).trans (h.2 a)⟩
theorem CellsT.flat {g : Nat} {C : List Tok} {w : World} (h : CellsT g C w) : ∀ i x, (C.flatMap tkC)[i]? = some x → w.cell? ⟨g, i, none⟩ = some x := by
 intro i x hx
 have hlen : (C.flatMap tkC).length = C.length * 7 := by
  clear hx h
  induction C with
  | nil => rfl
  | cons a r ih => rw [List.flatMap_cons, List.length_append, ih, List.length_cons]; show 7 + _ = _; omega
 have hi : i < C.length * 7 := by rw [← hlen]; exact (List.getElem?_eq_some_iff.1 hx).1
 have hq : i / 7 < C.length := by omega
 have ht : C[i / 7]? = some C[i / 7] := List.getElem?_eq_getElem hq
 have e : i / 7 * 7 + i % 7 = i := by omega
 have := h.1 (i / 7) _ (i % 7) x ht (by omega) (by rw [← tok_at ht (i % 7) (by omega), e]; exact hx)
 rw [e] at this
 exact this
theorem CellsT.of_own {B : Nat} {ts : List Tok} {v : Value} {w : World} (h : OwnT B ts v w) (hne : ts ≠ []) : ∃ g cap, v = .slice (some ⟨g, 0, none⟩) ts.length cap ∧ ts.length ≤ cap ∧ B ≤ g ∧ g < w.heap.size ∧ CellsT g ts w := by
 obtain ⟨hn, h⟩ := h
 rcases h with ⟨hv, h0⟩ | ⟨g, cap, cur, hv, hb, hg, hc, hm, hsz, ht⟩
 ·exact absurd (List.eq_nil_of_length_eq_zero h0) hne
 ·refine ⟨g, cap, hv, hc, hb, (Array.getElem?_eq_some_iff.1 hg).1, fun q t k x h1 h2 h3 => ?_, fun a => by simp [World.frozen?, hg]⟩
  have hq := (List.getElem?_eq_some_iff.1 h1).1
  have h4 := tok_at h1 k h2
  rw [h3, ← ht, List.getElem?_take_of_lt (by omega)] at h4
  unfold World.cell?
  simp only []
  rw [hg]
  simpa using h4
theorem CellsT.put {g : Nat} {C : List Tok} {w : World} (h : CellsT g C w) {i k0 : Nat} {t t' : Tok} {v : Value} (hi : C[i]? = some t) (hk : k0 < 7) (hc : ∃ x, w.cell? ⟨g, i * 7 + k0, none⟩ = some x)
  (hv : (tkC t')[k0]? = some v) (ho : ∀ k, k < 7 → k ≠ k0 → (tkC t')[k]? = (tkC t)[k]?) : CellsT g (C.set i t') (w.setCell ⟨g, i * 7 + k0, none⟩ v) := by
 refine ⟨fun q s k x h1 h2 h3 => ?_, fun a => by rw [World.frozen?_setCell]; exact h.2 a⟩
 by_cases hq : q = i
 ·subst hq
  rw [List.getElem?_set_self (List.getElem?_eq_some_iff.1 hi).1] at h1
  obtain rfl : t' = s := by simpa using h1
  by_cases hkk : k = k0
  ·subst hkk
   rw [hv] at h3
   obtain rfl : v = x := by simpa using h3
   obtain ⟨y, hy⟩ := hc
   exact World.cell?_setCell_same' _ _ _ (by simp [hy])
  ·rw [World.cell?_setCell_other _ _ _ _ (by intro e; injection e; omega)]
   exact h.1 q t k x hi h2 (by rw [← ho k h2 hkk]; exact h3)
 ·rw [List.getElem?_set_ne (by omega)] at h1
  rw [World.cell?_setCell_other _ _ _ _ (by intro e; injection e; omega)]
  exact h.1 q s k x h1 h2 h3

end Go.Proofs.YtjmplgbhjpldbaaGreatDoor
namespace Go.Proofs.YtjmplgbhjpldbaaGreatDoor
open Go.RowKit
theorem quiet_eqA {P : Program} {f : FuncId} {args : Array Value} {w : World} {n : Nat} {v : Value}
  (h : Calls P f args (w.drewN n) fun e w' => e = .returned v ∧ w.drewN n = w') : Calls P f args (w.drewN n) fun e w'' => e = .returned v ∧ ∃ m, w'' = w.drewN m :=
 h.mono fun _ _ ⟨he, hm⟩ => ⟨he, n, hm.symm⟩
theorem same_len {l m : List Tok} (h : SameL l m) : l.length = m.length := by
 induction h with
 | nil => rfl
 | cons _ _ ih => simp [ih]
theorem same_at {l m : List Tok} (h : SameL l m) : ∀ {i : Nat} {a : Tok}, l[i]? = some a → ∃ b, m[i]? = some b ∧ sameT a b := by
 induction h with
 | nil => intro i a ha; simp at ha
 | cons hs _ ih =>
  intro i a ha
  cases i with
  | zero =>
   obtain rfl := Option.some.inj ha
   exact ⟨_, rfl, hs⟩
  | succ i => exact ih (i := i) (by simpa using ha)
theorem stands_len (u : List Nat) : ∀ (ts : List Tok) (p : Nat), p ≤ u.length → StandsL u p ts → ts.length + p ≤ u.length + 1
 | [], _, _, h => h.elim
 | k :: ts, p, hp, h => by
  obtain ⟨s1, s2, s3, s4, s5, s6⟩ := h
  rw [List.length_cons]
  rcases s6 with ⟨_, g2, _⟩ | ⟨g1, g3⟩
  ·rw [g2]
   simp
   omega
  ·have := stands_len u ts k.fin s3 g3
   have : k.fin ≠ k.pos := fun e => g1 (s4.1 e)
   omega
theorem CellsT.other {g : Nat} {C : List Tok} {w : World} (h : CellsT g C w) {g' : Nat} (hg : g ≠ g') (i : Nat) (v : Value) : CellsT g C (w.setCell ⟨g', i, none⟩ v) :=
 ⟨fun q t k x h1 h2 h3 => by rw [World.cell?_setCell_far _ _ _ _ (by show g' ≠ g; omega)]; exact h.1 q t k x h1 h2 h3, fun a => by rw [World.frozen?_setCell]; exact h.2 a⟩
theorem set_next {ts ms : List Tok} {i : Nat} {t b : Tok} (h1 : ts[i]? = some t) (h2 : ms[i]? = some b) : (ts.take i ++ ms.drop i).set i t = ts.take (i + 1) ++ ms.drop (i + 1) ∧ (ts.take i ++ ms.drop i)[i]? = some b := by
 obtain ⟨g1, g2⟩ := List.getElem?_eq_some_iff.1 h1
 obtain ⟨g3, g4⟩ := List.getElem?_eq_some_iff.1 h2
 have hA : (ts.take i).length = i := by rw [List.length_take]; omega
 have hd : ms.drop i = b :: ms.drop (i + 1) := by rw [← g4]; exact List.drop_eq_getElem_cons g3
 constructor
 ·rw [hd, List.take_add_one, h1, List.set_append_right _ _ (by omega), hA, Nat.sub_self]
  simp
 ·rw [hd, List.getElem?_append_right (by omega), hA, Nat.sub_self]
  rfl
def ApL (o : Nat) (u : List Nat) (ts : List Tok) (i p : Nat) (pre : List Nat) : Prop :=
 pre ++ reb o u i p (ts.drop i) = reb o u 0 0 ts ∧ pre.length ≤ p + 2 * i ∧ (∀ c ∈ pre, c < 65536) ∧ (i < ts.length → StandsL u p (ts.drop i)) ∧ (i = ts.length → p = u.length)
theorem ap_next {o : Nat} {u : List Nat} {ts : List Tok} {i p : Nat} {pre : List Nat} {t : Tok} (hu : ∀ c ∈ u, c < 65536) (h : ApL o u ts i p pre) (ht : ts[i]? = some t) :
  p ≤ t.pos ∧ t.pos ≤ t.fin ∧ t.fin ≤ u.length ∧ ApL o u ts (i + 1) t.fin (pre ++ (u.drop p).take (t.pos - p) ++ spc (decide ((o + i) % 3 = 0)) ++ (u.drop t.pos).take (t.fin - t.pos)) := by
 obtain ⟨h1, h2, h3, h4, h5⟩ := h
 have hlt := (List.getElem?_eq_some_iff.1 ht).1
 have hdr : ts.drop i = t :: ts.drop (i + 1) := by
  obtain ⟨g1, g2⟩ := List.getElem?_eq_some_iff.1 ht
  rw [← g2]
  exact List.drop_eq_getElem_cons g1
 have hst := h4 hlt
 rw [hdr] at hst h1
 obtain ⟨s1, s2, s3, s4, s5, s6⟩ := hst
 have hsl : (spc (decide ((o + i) % 3 = 0))).length ≤ 2 := by unfold spc; split <;> simp
 refine ⟨s1, s2, s3, ?_, ?_, ?_, ?_, ?_⟩
 ·rw [← h1, reb]
  simp only [List.append_assoc]
 ·simp only [List.length_append, List.length_take, List.length_drop]
  omega
 ·intro c hc
  simp only [List.mem_append] at hc
  rcases hc with ((hc | hc) | hc) | hc
  ·exact h3 c hc
  ·exact hu c (List.mem_of_mem_drop (List.mem_of_mem_take hc))
  ·unfold spc at hc
   split at hc
   ·simp at hc; omega
   ·simp at hc
  ·exact hu c (List.mem_of_mem_drop (List.mem_of_mem_take hc))
 ·intro hi
  rcases s6 with ⟨_, g2, _⟩ | ⟨_, g3⟩
  ·have := congrArg List.length g2
   rw [List.length_drop] at this
   simp at this
   omega
  ·exact g3
 ·intro hi
  rcases s6 with ⟨_, _, g3⟩ | ⟨_, g3⟩
  ·exact g3
  ·rw [List.drop_eq_nil_iff.2 (by omega)] at g3
   exact absurd g3 (by simp [StandsL])
set_option maxRecDepth 100000 in
set_option maxHeartbeats 8000000 in
theorem apart_any (s : ByteArray) (o : Nat) (w : World) (hs : s.size ≤ 1048576) (ho : o < 256) :
  Ct 8 #[.string s, .int .u8 (o : Nat)] (.bool true) w := by
 have hln := ln_le s
 have CA := fun W => xAll_any s W (by omega)
 have CW := Lib.hid (fun W => awake_any W)
 have CS := Lib.hid (fun (f t : Int) W => rslice_any s f t W (by unfold maxLen; omega))
 have CP := fun W => rwide_any ⟨#[32, 9]⟩ W (by decide)
 rw [show wdL ⟨#[32, 9]⟩ = [32, 9] from rfl] at CP
 have CA2 := Lib.hid (fun (X : ByteArray) (h : X.size ≤ 4194304) W => xAll_any X W (by omega))
 rcases hA : allL (us s) with ⟨q, _ | ts⟩
 ·rw [hA] at CA
  have CA := Lib.hid CA
  clear hA hs hln CA2 CS CP ho
  go_enter Tryz.func8, Tryz.ntmps8
  go_wp2_with fail
  refine (CA.out _).mono ?_
  rintro e w1 ⟨rfl, b1⟩
  have B1 := Lib.hid b1
  clear b1
  go_wp2_with fail
  refine (CW.out _).mono ?_
  rintro e w2 ⟨rfl, b2⟩
  have B2 := Lib.hid (below_le B1.out b2)
  clear b2
  go_wp2
  go_ret
  exact ⟨rfl, B2.out⟩
 ·rw [hA] at CA
  have hst := all_stands (us s) _ 0 q ts (Nat.zero_le _) hA
  have hne : ts ≠ [] := by intro h; rw [h] at hst; exact hst
  obtain ⟨F, hF⟩ := all_apart o (us s) _ 0 q ts 0 (Nat.zero_le _) hA
  obtain ⟨hsm, hall⟩ := hF 0
  have hnum := all_num _ 0 q (us s) ts (Nat.lt_succ_self _) hA
  obtain ⟨n, hn⟩ : ∃ n, ts.length = n := ⟨_, rfl⟩
  have HN := Lib.hid hn
  have HSM := Lib.hid hsm
  have HALL := Lib.hid hall
  have HNUM := Lib.hid hnum
  have HST := Lib.hid hst
  have HNE := Lib.hid hne
  have HLN := Lib.hid (show ln s ≤ 524288 by omega)
  have hnl := stands_len (us s) ts 0 (Nat.zero_le _) hst
  rw [us_length, hn] at hnl
  have HNL := Lib.hid (show n ≤ 524289 by omega)
  clear hnl
  have HO := Lib.hid ho
  obtain ⟨Sp, hSp⟩ : ∃ Sp : ByteArray, (⟨(bL [32, 9]).toArray⟩ : ByteArray) = Sp := ⟨_, rfl⟩
  rw [hSp] at CP
  have HSP := Lib.hid hSp
  have CP := Lib.hid CP
  have CA := Lib.hid CA
  have hol : (o : Int) < 256 := by omega
  clear hA hs hst hln hne hF hsm hall hnum hn hSp ho
  go_enter Tryz.func8, Tryz.ntmps8
  go_wp2_with fail
  refine (CA.out _).mono ?_
  rintro e w1 ⟨⟨v, rfl, ho1⟩, b1⟩
  have B1 := Lib.hid b1
  have hmx := own_tok_max ho1
  obtain ⟨g, cap, rfl, hcap, hg1, hg2, hc1⟩ := CellsT.of_own ho1 HNE.out
  have HC1 := Lib.hid hc1
  rw [HN.out] at hcap hmx ⊢
  have HMX := Lib.hid hmx
  have HCAP := Lib.hid hcap
  clear b1 ho1 hc1 hmx
  go_wp2_with fail
  refine (CP.out _).mono ?_
  rintro e w2 ⟨rfl, b2⟩
  have B2 := Lib.hid b2
  have hg22 : g < w2.heap.size := by have := b2.size; omega
  have HC2 := Lib.hid (HC1.out.below hg2 b2)
  clear b2
  go_wp2
  go_loopw [8, 9, 11] (fun sv av iv wr => ∃ (i p : Nat) (pre : List Nat), sv = .string ⟨(bL pre).toArray⟩ ∧ av = .int .i64 p ∧ iv = .int .i64 i ∧ i ≤ n ∧ Hid (ApL o (us s) ts i p pre) ∧ Below w2.heap.size w2 wr) (fun _ _ iv _ => n - (intOf iv).toNat)
  case atStart => exact ⟨0, 0, [], rfl, by go_num, by go_num, Nat.zero_le _, Lib.hid ⟨rfl, by simp, by simp, fun _ => HST.out, fun h => absurd (List.eq_nil_of_length_eq_zero h.symm) HNE.out⟩, Below.refl _ _⟩
  case round =>
   obtain ⟨i, p, pre, rfl, rfl, rfl, hi, HJ, hb⟩ := hrel
   have HB := Lib.hid hb
   have hil : (i : Int) ≤ 524289 := by have := HNL.out; omega
   rcases Nat.lt_or_ge i n with hlt | hge
   ·obtain ⟨t, ht⟩ : ∃ t, ts[i]? = some t := ⟨_, List.getElem?_eq_getElem (by rw [HN.out]; exact hlt)⟩
    obtain ⟨a1, a2, a3, a4⟩ := ap_next (us_lt s) HJ.out ht
    have hpl := HJ.out.2.1
    have hpu : p ≤ ln s := by rw [us_length] at a3; omega
    rw [us_length] at a3
    have HCi := HC2.out.below hg22 hb
    have c5 : wr.cell? ⟨g, i * 7 + 5, none⟩ = some (.int .i64 (t.pos : Int)) := HCi.1 i t 5 _ ht (by omega) rfl
    have c6 : wr.cell? ⟨g, i * 7 + 6, none⟩ = some (.int .i64 (t.fin : Int)) := HCi.1 i t 6 _ ht (by omega) rfl
    obtain ⟨po, hpo⟩ : ∃ po, t.pos = po := ⟨_, rfl⟩
    obtain ⟨fi, hfi⟩ : ∃ fi, t.fin = fi := ⟨_, rfl⟩
    rw [hpo] at c5 a1 a2 a4
    rw [hfi] at c6 a2 a3 a4
    have CS1 := fun W => CS.out (p : Int) (po : Int) W
    have CS2 := fun W => CS.out (po : Int) (fi : Int) W
    have e1 := slS_bL s p (po - p) (by omega)
    have e2 := slS_bL s po (fi - po) (by omega)
    rw [show p + (po - p) = po by omega] at e1
    rw [show po + (fi - po) = fi by omega] at e2
    obtain ⟨A1, hA1⟩ : ∃ A1, ((us s).drop p).take (po - p) = A1 := ⟨_, rfl⟩
    obtain ⟨A2, hA2⟩ : ∃ A2, ((us s).drop po).take (fi - po) = A2 := ⟨_, rfl⟩
    have l1 : A1.length ≤ 524288 := by rw [← hA1, List.length_take, List.length_drop, us_length]; have := HLN.out; omega
    have l2 : A2.length ≤ 524288 := by rw [← hA2, List.length_take, List.length_drop, us_length]; have := HLN.out; omega
    rw [hA1] at e1 a4
    rw [hA2] at e2 a4
    rw [e1] at CS1
    rw [e2] at CS2
    obtain ⟨P, hP⟩ : ∃ P : ByteArray, (⟨(bL pre).toArray⟩ : ByteArray) = P := ⟨_, rfl⟩
    rw [hP]
    obtain ⟨X1, hX1⟩ : ∃ X : ByteArray, (⟨(bL A1).toArray⟩ : ByteArray) = X := ⟨_, rfl⟩
    obtain ⟨X2, hX2⟩ : ∃ X : ByteArray, (⟨(bL A2).toArray⟩ : ByteArray) = X := ⟨_, rfl⟩
    have z0 : P.size ≤ 3145734 := by rw [← hP, bytes_size]; have := HLN.out; have := HNL.out; omega
    have z1 : X1.size ≤ 1048576 := by rw [← hX1, bytes_size]; omega
    have z2 : X2.size ≤ 1048576 := by rw [← hX2, bytes_size]; omega
    have z3 : Sp.size = 4 := by rw [← HSP.out]; rfl
    have y1 : ¬ 9223372036854775807 < P.size + X1.size := by omega
    have y2 : ¬ 9223372036854775807 < P.size + X1.size + Sp.size := by omega
    have y3 : ¬ 9223372036854775807 < P.size + X1.size + Sp.size + X2.size := by omega
    have y4 : ¬ 9223372036854775807 < P.size + X1.size + X2.size := by omega
    rw [hX1] at CS1
    rw [hX2] at CS2
    have CS1 := Lib.hid CS1
    have CS2 := Lib.hid CS2
    obtain ⟨b, hbb⟩ : ∃ b : Bool, decide ((o + i) % 3 = 0) = b := ⟨_, rfl⟩
    have hbt : ((((o : Int) + (i : Int)) % 3) == 0) = b := by
     rw [← hbb, Bool.eq_iff_iff]
     simp
     omega
    rw [hbb] at a4
    have HEf : Hid ((⟨(bL (pre ++ A1 ++ spc false ++ A2)).toArray⟩ : ByteArray) = P ++ X1 ++ X2) := Lib.hid (by
     rw [← hP, ← hX1, ← hX2, bytes_app, bytes_app]
     show _ = (⟨(bL (pre ++ A1 ++ A2)).toArray⟩ : ByteArray)
     rw [show pre ++ A1 ++ spc false ++ A2 = pre ++ A1 ++ A2 by simp [spc]])
    have HEt : Hid ((⟨(bL (pre ++ A1 ++ spc true ++ A2)).toArray⟩ : ByteArray) = P ++ X1 ++ Sp ++ X2) := Lib.hid (by
     rw [← hP, ← hX1, ← hX2, ← HSP.out, bytes_app, bytes_app, bytes_app]
     rfl)
    have HA4 := Lib.hid a4
    have hicap : i < cap := by have := HCAP.out; omega
    clear a1 a2 a3 a4 hpo hfi hA1 hA2 l1 l2 e1 e2 hP hX1 hX2 z0 z1 z2 z3 hbb hb HCi ht HJ hpl hpu
    cases b
    ·go_wp2_with fail
     refine (CS1.out _).mono ?_
     rintro e w' ⟨rfl, rfl⟩
     go_wp2
     go_quiet ((go_at_call 24; exact quiet_eqA (CS2.out _)))
     have HB2 := Lib.hid (below_drewN' HB.out nq)
     go_wp2
     go_roundw
     case rel => exact ⟨i + 1, fi, _, by rw [← HEf.out], rfl, by go_num, hlt, HA4, HB2.out⟩
     case measure => simp [intOf]; omega
    ·go_wp2_with fail
     refine (CS1.out _).mono ?_
     rintro e w' ⟨rfl, rfl⟩
     go_wp2
     go_quiet ((go_at_call 24; exact quiet_eqA (CS2.out _)))
     have HB2 := Lib.hid (below_drewN' HB.out nq)
     go_wp2
     go_roundw
     case rel => exact ⟨i + 1, fi, _, by rw [← HEt.out], rfl, by go_num, hlt, HA4, HB2.out⟩
     case measure => simp [intOf]; omega
   ·obtain rfl : i = n := by omega
    have hap := HJ.out
    have hpre : pre = reb o (us s) 0 0 ts := by
     have h1 := hap.1
     rw [List.drop_eq_nil_iff.2 (by rw [HN.out]; exact Nat.le_refl _), reb, List.append_nil] at h1
     exact h1
    have hpl : p ≤ ln s := by
     have := hap.2.2.2.2 HN.out.symm
     rw [us_length] at this
     omega
    have hpsz := hap.2.1
    obtain ⟨X, hX⟩ : ∃ X : ByteArray, (⟨(bL pre).toArray⟩ : ByteArray) = X := ⟨_, rfl⟩
    have hXu : us X = pre := by rw [← hX]; exact us_bL hap.2.2.1
    have hXs : X.size ≤ 4194304 := by rw [← hX, bytes_size]; have := HLN.out; have := HNL.out; omega
    have CA3 := fun W => CA2.out X hXs W
    have hal : allL (us X) = (0, some (F 0)) := by
     rw [hXu, hpre]
     exact HALL.out _ (Nat.lt_succ_self _)
    rw [hal] at CA3
    have CA3 := Lib.hid CA3
    rw [hX]
    have hfl : (F 0).length = i := by rw [← same_len HSM.out, HN.out]
    have HFL := Lib.hid hfl
    have hfne : F 0 ≠ [] := by
     intro h
     rw [h] at hfl
     have h2 := HN.out
     rw [← hfl] at h2
     exact HNE.out (List.eq_nil_of_length_eq_zero h2)
    have HFNE := Lib.hid hfne
    clear hap hpre hpl hpsz hX hXu hXs hal hfl hfne HJ hb
    go_wp2_with fail
    refine (CA3.out _).mono ?_
    rintro e w3 ⟨⟨v2, rfl, o3⟩, b3⟩
    obtain ⟨g2, cap2, rfl, hcap2, hg3, hg4, hc3⟩ := CellsT.of_own o3 HFNE.out
    rw [HFL.out] at hcap2 ⊢
    have hsz3 := b3.size
    have hszr := HB.out.size
    have hgne : g ≠ g2 := by omega
    obtain ⟨B0, hB0⟩ : ∃ B0, wr.heap.size = B0 := ⟨_, rfl⟩
    rw [hB0] at b3 hg3 hsz3 hszr
    have hg5 : g < wr.heap.size := by omega
    have hB3 := HB.out.trans (b3.mono hszr)
    have HC3 := Lib.hid (HC2.out.below hg22 hB3)
    have HM := Lib.hid hc3
    have HB3 := Lib.hid hB3
    have HB30 := Lib.hid b3
    have HCAP2 := Lib.hid hcap2
    have hil2 : (i : Int) + 1 ≤ 9223372036854775807 := by omega
    clear o3 b3 hc3 hB3 hcap2 hB0
    go_wp2
    go_loopw [15] (fun iv wq => ∃ k : Nat, iv = .int .i64 k ∧ k ≤ i ∧ CellsT g ts wq ∧ CellsT g2 (ts.take k ++ (F 0).drop k) wq ∧ Below B0 w3 wq ∧ w3.heap.size ≤ wq.heap.size) (fun iv _ => i - (intOf iv).toNat)
    case atStart => exact ⟨0, by go_num, Nat.zero_le _, HC3.out, HM.out, Below.refl _ _, Nat.le_refl _⟩
    case round =>
     obtain ⟨k, rfl, hk, HCt, HCm, hbq, hzq⟩ := hrel
     rcases Nat.lt_or_ge k i with hlt | hge
     ·obtain ⟨t, ht⟩ : ∃ t, ts[k]? = some t := ⟨_, List.getElem?_eq_getElem (by rw [HN.out]; exact hlt)⟩
      obtain ⟨bt, hbt, hsame⟩ := same_at HSM.out ht
      obtain ⟨q1, q2⟩ := set_next ht hbt
      have hk1 : (k : Int) + 1 ≤ 9223372036854775807 := by omega
      have hkc1 : k < cap := by have := HCAP.out; omega
      have hkc2 : k < cap2 := by have := HCAP2.out; omega
      obtain ⟨kd, tx, xx, es, nl, po, fi⟩ := t
      obtain ⟨kd', tx', xx', es', nl', po', fi'⟩ := bt
      obtain ⟨rfl, rfl, rfl, rfl, rfl⟩ : kd = kd' ∧ tx = tx' ∧ xx = xx' ∧ es = es' ∧ nl = nl' := hsame
      have c5 : wr.cell? ⟨g, k * 7 + 5, none⟩ = some (.int .i64 (po : Int)) := HCt.1 k _ 5 _ ht (by omega) rfl
      have c6 : wr.cell? ⟨g, k * 7 + 6, none⟩ = some (.int .i64 (fi : Int)) := HCt.1 k _ 6 _ ht (by omega) rfl
      have d5 : wr.cell? ⟨g2, k * 7 + 5, none⟩ = some (.int .i64 (po' : Int)) := HCm.1 k _ 5 _ q2 (by omega) rfl
      have d6 : wr.cell? ⟨g2, k * 7 + 6, none⟩ = some (.int .i64 (fi' : Int)) := HCm.1 k _ 6 _ q2 (by omega) rfl
      have f5 := HCm.2 (k * 7 + 5)
      have f6 := HCm.2 (k * 7 + 6)
      have M1 := HCm.put (t' := ⟨kd, tx, xx, es, nl, po, fi'⟩) (v := .int .i64 (po : Int)) q2 (k0 := 5) (by omega) ⟨_, d5⟩ rfl (fun k hk hne => by
       have : k = 0 ∨ k = 1 ∨ k = 2 ∨ k = 3 ∨ k = 4 ∨ k = 6 := by omega
       rcases this with rfl | rfl | rfl | rfl | rfl | rfl <;> rfl)
      have e6 : (wr.setCell ⟨g2, k * 7 + 5, none⟩ (.int .i64 (po : Int))).cell? ⟨g2, k * 7 + 6, none⟩ = some (.int .i64 (fi' : Int)) := (World.cell?_setCell_other _ _ _ _ (by intro e; injection e; omega)).trans d6
      have hlen : k < (ts.take k ++ (F 0).drop k).length := (List.getElem?_eq_some_iff.1 q2).1
      have M2 := M1.put (i := k) (t := ⟨kd, tx, xx, es, nl, po, fi'⟩) (t' := ⟨kd, tx, xx, es, nl, po, fi⟩) (v := .int .i64 (fi : Int)) (List.getElem?_set_self hlen) (k0 := 6) (by omega) ⟨_, e6⟩ rfl (fun k hk hne => by
       have : k = 0 ∨ k = 1 ∨ k = 2 ∨ k = 3 ∨ k = 4 ∨ k = 5 := by omega
       rcases this with rfl | rfl | rfl | rfl | rfl | rfl <;> rfl)
      rw [List.set_set, q1] at M2
      have N2 := (HCt.other hgne (k * 7 + 5) (.int .i64 (po : Int))).other hgne (k * 7 + 6) (.int .i64 (fi : Int))
      have b2 : Below B0 w3 ((wr.setCell ⟨g2, k * 7 + 5, none⟩ (.int .i64 (po : Int))).setCell ⟨g2, k * 7 + 6, none⟩ (.int .i64 (fi : Int))) := (hbq.setCell (by show B0 ≤ g2; exact hg3) _).setCell (by show B0 ≤ g2; exact hg3) _
      have z2 : w3.heap.size ≤ ((wr.setCell ⟨g2, k * 7 + 5, none⟩ (.int .i64 (po : Int))).setCell ⟨g2, k * 7 + 6, none⟩ (.int .i64 (fi : Int))).heap.size := by simp only [World.setCell, Array.size_modify]; exact hzq
      have HALLX := Lib.hid (And.intro N2 (And.intro M2 (And.intro b2 z2)))
      clear N2 M2 M1 b2 z2 HCt HCm hbq hzq q1 q2 ht hbt hlen e6
      go_wp2
      go_roundw
      case rel => exact ⟨k + 1, by go_num, hlt, HALLX.out.1, HALLX.out.2.1, HALLX.out.2.2.1, HALLX.out.2.2.2⟩
      case measure => simp [intOf]; omega
     ·obtain rfl : k = i := by omega
      have HX1 := Lib.hid HCt
      have HX2 : Hid (CellsT g2 ts wr) := Lib.hid (by
       have h := HCm
       rw [List.drop_eq_nil_iff.2 (by rw [HFL.out]; exact Nat.le_refl _), List.append_nil, List.take_of_length_le (by rw [HN.out]; exact Nat.le_refl _)] at h
       exact h)
      have HBQ := Lib.hid hbq
      have HZQ := Lib.hid hzq
      clear HCt HCm hbq hzq
      have CSA : Hid (Ct 15 #[.slice (some ⟨g, 0, none⟩) k cap, .slice (some ⟨g2, 0, none⟩) k cap2] (.bool true) wr) := Lib.hid (zSameAll_true ts g g2 k cap cap2 wr HN.out (by omega) (by have := HCAP.out; omega) HCAP2.out (by have := HZQ.out; have := HB30.out.size; omega) (by have := HZQ.out; omega) HX1.out.flat HX2.out.flat HNUM.out)
      have T1 := below_le B1.out B2.out
      have T2 := below_le T1 HB.out
      have hw0 : w.heap.size ≤ B0 := by have := T1.size; omega
      have T3 := T2.trans (HB30.out.mono hw0)
      have T4 := Lib.hid (T3.trans (HBQ.out.mono hw0))
      clear T1 T2 T3 hw0
      go_wp2_with fail
      refine CSA.out.mono ?_
      rintro e w8 ⟨rfl, b8⟩
      have T5 := Lib.hid (below_le T4.out b8)
      clear b8
      go_wp2_with fail
      refine (CW.out _).mono ?_
      rintro e w9 ⟨rfl, b9⟩
      have T6 := Lib.hid (below_le T5.out b9)
      clear b9
      go_wp2
      go_ret
      exact ⟨rfl, T6.out⟩

end Go.Proofs.YtjmplgbhjpldbaaGreatDoor
