/-
  Plain lemmas on the round trip between UTF-8 and units. No program in it.
-/
import Derived.Test.YthnkidncjkhndaaDoorEncPure
namespace Go.Proofs.YthnkidncjkhndaaDoor
/-- The code point at the beginning of bytes. -/
def ptL (l : List UInt8) : Nat × Nat := ptN l.length (l.getD 0 0).toNat (l.getD 1 0).toNat (l.getD 2 0).toNat (l.getD 3 0).toNat
theorem ptS_ptL (s : ByteArray) (i : Nat) : ptS s i = ptL (s.data.toList.drop i) := by
  unfold ptS ptL
  rw [← Lib.getD_get!', ← Lib.getD_get!', ← Lib.getD_get!', ← Lib.getD_get!', List.length_drop, ← Lib.size_eq]
  simp [List.getD, List.getElem?_drop]
/-- The units of bytes; none: they are no UTF-8. -/
def decL : Nat → List UInt8 → Option (List Nat)
  | 0, _ => some []
  | f + 1, l => if l = [] then some [] else if (ptL l).2 = 0 then none else (decL f (l.drop (ptL l).2)).map fun m => pu (ptL l).1 ++ m
def toOpt : Nat ⊕ List Nat → Option (List Nat)
  | .inl _ => none
  | .inr l => some l
theorem toOpt_glue (a : List Nat) (x : Nat ⊕ List Nat) : toOpt (glue a x) = (toOpt x).map fun m => a ++ m := by cases x <;> rfl
theorem decF_decL (s : ByteArray) : ∀ f i, toOpt (decF s f i) = decL f (s.data.toList.drop i)
  | 0, i => rfl
  | f + 1, i => by
    have hl : (s.data.toList.drop i = []) ↔ ¬ i < s.size := by
      rw [List.drop_eq_nil_iff, ← Lib.size_eq]; omega
    by_cases h : i < s.size
    · have hne : s.data.toList.drop i ≠ [] := fun e => (hl.1 e) h
      by_cases h2 : (ptL (s.data.toList.drop i)).2 = 0
      · simp [decF, decL, h, hne, ptS_ptL, h2, toOpt]
      · simp only [decF, decL, h, if_true, hne, if_false, ptS_ptL, h2, toOpt_glue, decF_decL s f, List.drop_drop]
    · simp [decF, decL, h, hl.2 h, toOpt]
theorem decS_decL (s : ByteArray) : toOpt (decS s) = decL s.size s.data.toList := by
  have := decF_decL s s.size 0
  rwa [List.drop_zero] at this

/-- A code point that is none of the surrogates. -/
def okP (p : Nat) : Prop := p ≤ 1114111 ∧ (p < 55296 ∨ 57343 < p)
theorem pt_enc (p : Nat) (h : okP p) (r : List UInt8) : ptL (Lib.encodeRune (p : Int) ++ r) = (p, (Lib.encodeRune (p : Int)).length) := by
  obtain ⟨h1, h2⟩ := h
  unfold Lib.encodeRune
  by_cases a : p < 128
  · rw [Lib.encodeRuneZ_one (by omega) (by omega)]
    have e : ((p : Int).toNat.toUInt8).toNat = p := by simp; omega
    simp only [ptL, ptN, List.map_cons, List.map_nil, List.cons_append, List.nil_append, List.getD_cons_zero, e, List.length_cons, List.length_nil]
    rw [if_pos a]
  · by_cases b : p < 2048
    · rw [Lib.encodeRuneZ_two (by omega) (by omega)]
      have e0 : ((192 + (p : Int) / 64).toNat.toUInt8).toNat = 192 + p / 64 := by simp; omega
      have e1 : ((128 + (p : Int) % 64).toNat.toUInt8).toNat = 128 + p % 64 := by simp; omega
      simp only [ptL, ptN, List.map_cons, List.map_nil, List.cons_append, List.nil_append, List.getD_cons_zero, List.getD_cons_succ, e0, e1, List.length_cons, List.length_nil]
      rw [if_neg (by omega), if_pos (by omega)]
      congr 1
      omega
    · by_cases c : p < 65536
      · rw [Lib.encodeRuneZ_three (by omega)]
        have e0 : ((224 + (p : Int) / 4096).toNat.toUInt8).toNat = 224 + p / 4096 := by simp; omega
        have e1 : ((128 + (p : Int) / 64 % 64).toNat.toUInt8).toNat = 128 + p / 64 % 64 := by simp; omega
        have e2 : ((128 + (p : Int) % 64).toNat.toUInt8).toNat = 128 + p % 64 := by simp; omega
        simp only [ptL, ptN, List.map_cons, List.map_nil, List.cons_append, List.nil_append, List.getD_cons_zero, List.getD_cons_succ, e0, e1, e2, List.length_cons, List.length_nil]
        rw [if_neg (by omega), if_neg (by omega), if_pos (by omega), if_pos (by omega)]
        congr 1
        omega
      · rw [Lib.encodeRuneZ_four (by omega) (by omega)]
        have e0 : ((240 + (p : Int) / 262144).toNat.toUInt8).toNat = 240 + p / 262144 := by simp; omega
        have e1 : ((128 + (p : Int) / 4096 % 64).toNat.toUInt8).toNat = 128 + p / 4096 % 64 := by simp; omega
        have e2 : ((128 + (p : Int) / 64 % 64).toNat.toUInt8).toNat = 128 + p / 64 % 64 := by simp; omega
        have e3 : ((128 + (p : Int) % 64).toNat.toUInt8).toNat = 128 + p % 64 := by simp; omega
        simp only [ptL, ptN, List.map_cons, List.map_nil, List.cons_append, List.nil_append, List.getD_cons_zero, List.getD_cons_succ, e0, e1, e2, e3, List.length_cons, List.length_nil]
        rw [if_neg (by omega), if_neg (by omega), if_neg (by omega), if_pos (by omega), if_pos (by omega)]
        congr 1
        omega
theorem u8_eq (x : UInt8) (n : Int) (h : n = (x.toNat : Int)) : n.toNat.toUInt8 = x := by
  subst h
  apply UInt8.toNat_inj.1
  simp
theorem enc_pt (l : List UInt8) (h : (ptL l).2 ≠ 0) (h0 : l ≠ []) : okP (ptL l).1 ∧ l = Lib.encodeRune ((ptL l).1 : Int) ++ l.drop (ptL l).2 ∧ 1 ≤ (ptL l).2 ∧ (ptL l).2 ≤ l.length := by
  unfold ptL ptN at h ⊢
  match l, h0 with
  | b0 :: r, _ =>
    simp only [List.getD_cons_zero] at h ⊢
    have t0 := b0.toNat_lt
    by_cases a : b0.toNat < 128
    · rw [if_pos a]
      refine ⟨⟨by omega, by omega⟩, ?_, by simp, by simp⟩
      unfold Lib.encodeRune
      rw [Lib.encodeRuneZ_one (by omega) (by omega)]
      simp
    · rw [if_neg a] at h ⊢
      match r with
      | [] => simp at h
      | b1 :: r1 =>
        simp only [List.getD_cons_zero, List.getD_cons_succ] at h ⊢
        have t1 := b1.toNat_lt
        by_cases b : 194 ≤ b0.toNat ∧ b0.toNat < 224 ∧ 1 < (b0 :: b1 :: r1).length ∧ b1.toNat / 64 = 2
        · rw [if_pos b]
          refine ⟨⟨by omega, by omega⟩, ?_, by simp, by simp⟩
          unfold Lib.encodeRune
          rw [Lib.encodeRuneZ_two (by omega) (by omega)]
          simp only [List.map_cons, List.map_nil, List.cons_append, List.nil_append, List.drop_succ_cons, List.drop_zero]
          rw [u8_eq b0 _ (by omega), u8_eq b1 _ (by omega)]
        · rw [if_neg b] at h ⊢
          match r1 with
          | [] => simp at h
          | b2 :: r2 =>
            simp only [List.getD_cons_zero, List.getD_cons_succ] at h ⊢
            have t2 := b2.toNat_lt
            by_cases c : 224 ≤ b0.toNat ∧ b0.toNat < 240 ∧ (1 < (b0 :: b1 :: b2 :: r2).length ∧ b1.toNat / 64 = 2) ∧ 2 < (b0 :: b1 :: b2 :: r2).length ∧ b2.toNat / 64 = 2
            · rw [if_pos c] at h ⊢
              by_cases d : 2048 ≤ b0.toNat % 16 * 4096 + b1.toNat % 64 * 64 + b2.toNat % 64 ∧ (b0.toNat % 16 * 4096 + b1.toNat % 64 * 64 + b2.toNat % 64 < 55296 ∨ 57343 < b0.toNat % 16 * 4096 + b1.toNat % 64 * 64 + b2.toNat % 64)
              · rw [if_pos d]
                refine ⟨⟨by omega, by omega⟩, ?_, by simp, by simp⟩
                unfold Lib.encodeRune
                rw [Lib.encodeRuneZ_three (by omega)]
                simp only [List.map_cons, List.map_nil, List.cons_append, List.nil_append, List.drop_succ_cons, List.drop_zero]
                rw [u8_eq b0 _ (by omega), u8_eq b1 _ (by omega), u8_eq b2 _ (by omega)]
              · rw [if_neg d] at h; simp at h
            · rw [if_neg c] at h ⊢
              match r2 with
              | [] => simp at h
              | b3 :: r3 =>
                simp only [List.getD_cons_zero] at h ⊢
                have t3 := b3.toNat_lt
                by_cases e : 240 ≤ b0.toNat ∧ b0.toNat < 245 ∧ (1 < (b0 :: b1 :: b2 :: b3 :: r3).length ∧ b1.toNat / 64 = 2) ∧ (2 < (b0 :: b1 :: b2 :: b3 :: r3).length ∧ b2.toNat / 64 = 2) ∧ 3 < (b0 :: b1 :: b2 :: b3 :: r3).length ∧ b3.toNat / 64 = 2
                · rw [if_pos e] at h ⊢
                  by_cases d : 65536 ≤ b0.toNat % 8 * 262144 + b1.toNat % 64 * 4096 + b2.toNat % 64 * 64 + b3.toNat % 64 ∧ b0.toNat % 8 * 262144 + b1.toNat % 64 * 4096 + b2.toNat % 64 * 64 + b3.toNat % 64 ≤ 1114111
                  · rw [if_pos d]
                    refine ⟨⟨by omega, by omega⟩, ?_, by simp, by simp⟩
                    unfold Lib.encodeRune
                    rw [Lib.encodeRuneZ_four (by omega) (by omega)]
                    simp only [List.map_cons, List.map_nil, List.cons_append, List.nil_append, List.drop_succ_cons, List.drop_zero]
                    rw [u8_eq b0 _ (by omega), u8_eq b1 _ (by omega), u8_eq b2 _ (by omega), u8_eq b3 _ (by omega)]
                  · rw [if_neg d] at h; simp at h
                · rw [if_neg e] at h; simp at h
theorem enc_ne (p : Nat) : Lib.encodeRune (p : Int) ≠ [] ∧ 1 ≤ (Lib.encodeRune (p : Int)).length := by
  have := (Lib.encodeRuneZ_length (p : Int)).1
  have e : (Lib.encodeRune (p : Int)).length = (Lib.encodeRuneZ (p : Int)).length := by simp [Lib.encodeRune]
  refine ⟨fun h0 => ?_, by omega⟩
  rw [h0] at e
  simp at e
  omega
/-- One code point read, the rest behind it. -/
theorem decL_enc (f : Nat) (p : Nat) (h : okP p) (r : List UInt8) : decL (f + 1) (Lib.encodeRune (p : Int) ++ r) = (decL f r).map fun m => pu p ++ m := by
  have h1 := pt_enc p h r
  have h2 := enc_ne p
  have hne : Lib.encodeRune (p : Int) ++ r ≠ [] := by simp [h2.1]
  simp only [decL, hne, if_false, h1]
  rw [if_neg (by omega), List.drop_left]
theorem decL_ascii (f : Nat) (c : UInt8) (h : c.toNat < 128) (r : List UInt8) : decL (f + 1) (c :: r) = (decL f r).map fun m => c.toNat :: m := by
  have := decL_enc f c.toNat ⟨by omega, by omega⟩ r
  have e : Lib.encodeRune (c.toNat : Int) = [c] := by
    unfold Lib.encodeRune
    rw [Lib.encodeRuneZ_one (by omega) (by omega)]
    simp
  rw [e] at this
  have e2 : pu c.toNat = [c.toNat] := by unfold pu; rw [if_pos (by omega)]
  rw [e2] at this
  exact this
theorem hx_lt (k : Nat) (h : k < 16) : (hx k).toNat < 128 := by
  unfold hx
  split <;> simp <;> omega
/-- The text's bytes from units. -/
def encL : Nat → List Nat → List UInt8
  | 0, _ => []
  | f + 1, u :: v :: r => if hiB u = true ∧ loB v = true then Lib.encodeRune ((65536 + (u - 55296) * 1024 + (v - 56320) : Nat) : Int) ++ encL f r else oneU u ++ encL f (v :: r)
  | f + 1, [u] => oneU u ++ encL f []
  | _ + 1, [] => []
theorem us_drop (s : ByteArray) (i : Nat) (h : i < ln s) : (us s).drop i = un s i :: (us s).drop (i + 1) := by
  have h' : i < (us s).length := by rw [us_length]; exact h
  rw [List.drop_eq_getElem_cons h', us_getElem]
theorem encF_encL (s : ByteArray) : ∀ f i, encF s f i = encL f ((us s).drop i)
  | 0, i => by simp [encF, encL]
  | f + 1, i => by
    by_cases h : i < ln s
    · rw [us_drop s i h]
      by_cases h2 : i + 1 < ln s
      · rw [us_drop s (i + 1) h2]
        have e1 := encF_encL s f (i + 1 + 1)
        have e2 := encF_encL s f (i + 1)
        rw [us_drop s (i + 1) h2] at e2
        by_cases h3 : hiB (un s i) = true ∧ loB (un s (i + 1)) = true
        · have hp : prB s i = true := by simp [prB, h2, h3.1, h3.2]
          rw [encF_pair s f i h hp, encL, if_pos h3, ← e1]
          rfl
        · have hp : prB s i = false := by
            simp only [prB, h2, decide_true, Bool.true_and]
            cases a : hiB (un s i) <;> cases b : loB (un s (i + 1)) <;> simp_all
          rw [encF_one s f i h hp, encL, if_neg h3, e2]
      · have hp : prB s i = false := by simp [prB, h2]
        have hd : (us s).drop (i + 1) = [] := List.drop_eq_nil_iff.2 (by rw [us_length]; omega)
        have e2 := encF_encL s f (i + 1)
        rw [encF_one s f i h hp, hd, encL, e2, hd]
    · have hd : (us s).drop i = [] := List.drop_eq_nil_iff.2 (by rw [us_length]; omega)
      rw [encF_end s (f + 1) i h, hd, encL]
theorem encS_encL (s : ByteArray) : encS s = encL (ln s) (us s) := by
  have := encF_encL s (ln s) 0
  rwa [List.drop_zero] at this
theorem oneU_plain (u : Nat) (h : ¬ (55296 ≤ u ∧ u < 57344)) : oneU u = Lib.encodeRune (u : Int) := by
  have a : hiB u = false := by simp [hiB]; omega
  have b : loB u = false := by simp [loB]; omega
  unfold oneU
  rw [a, b]
  rfl
/-- What a code point's units are told as. -/
theorem encL_pu (f : Nat) (p : Nat) (h : okP p) (m : List Nat) : encL (f + 1) (pu p ++ m) = Lib.encodeRune (p : Int) ++ encL f m := by
  obtain ⟨h1, h2⟩ := h
  unfold pu
  by_cases a : p < 65536
  · rw [if_pos a]
    have hh : hiB p = false := by simp [hiB]; omega
    match m with
    | [] => simp only [List.cons_append, List.nil_append, encL]; rw [oneU_plain p (by omega)]
    | v :: r =>
      simp only [List.cons_append, List.nil_append, encL]
      rw [if_neg (by rw [hh]; simp), oneU_plain p (by omega)]
  · rw [if_neg a]
    simp only [List.cons_append, List.nil_append, encL]
    have hh : hiB (55296 + (p - 65536) / 1024) = true := by simp [hiB]; omega
    have hl : loB (56320 + (p - 65536) % 1024) = true := by simp [loB]; omega
    rw [if_pos ⟨hh, hl⟩]
    have x : 65536 + (55296 + (p - 65536) / 1024 - 55296) * 1024 + (56320 + (p - 65536) % 1024 - 56320) = p := by omega
    rw [x]
theorem pu_pos (p : Nat) : 1 ≤ (pu p).length := by unfold pu; split <;> simp
/-- Encode of Decode. -/
theorem back1 : ∀ (f : Nat) (l : List UInt8) (m : List Nat), l.length ≤ f → decL f l = some m → (∀ u ∈ m, u < 65536) ∧ ∀ g, m.length ≤ g → encL g m = l
  | 0, l, m, hl, h => by
    have h0 : l = [] := List.eq_nil_of_length_eq_zero (by omega)
    simp only [decL, Option.some.injEq] at h
    subst h0; subst h
    exact ⟨by simp, fun g _ => by cases g <;> rfl⟩
  | f + 1, l, m, hl, h => by
    by_cases h0 : l = []
    · subst h0
      simp [decL] at h
      subst h
      exact ⟨by simp, fun g _ => by cases g <;> rfl⟩
    · simp only [decL, h0, if_false] at h
      by_cases h2 : (ptL l).2 = 0
      · rw [if_pos h2] at h; cases h
      · rw [if_neg h2] at h
        obtain ⟨m', hm', rfl⟩ := Option.map_eq_some_iff.1 h
        obtain ⟨hok, he, h1, h3⟩ := enc_pt l h2 h0
        have ih := back1 f (l.drop (ptL l).2) m' (by rw [List.length_drop]; omega) hm'
        refine ⟨fun u hu => ?_, fun g hg => ?_⟩
        · rcases List.mem_append.1 hu with hu | hu
          · exact pu_lt _ hok.1 u hu
          · exact ih.1 u hu
        · rw [List.length_append] at hg
          have := pu_pos (ptL l).1
          obtain ⟨g', rfl⟩ : ∃ g', g = g' + 1 := ⟨g - 1, by omega⟩
          rw [encL_pu g' _ hok, ih.2 g' (by omega)]
          exact he.symm
/-- Is a unit alone among these? -/
def loneL : Nat → List Nat → Bool
  | 0, _ => false
  | f + 1, u :: v :: r => if hiB u = true then !(loB v) || loneL f r else loB u || loneL f (v :: r)
  | f + 1, [u] => if hiB u = true then true else loB u || loneL f []
  | _ + 1, [] => false
theorem back2 : ∀ (n : Nat) (l : List Nat) (f g : Nat), l.length ≤ n → l.length ≤ g → (encL g l).length ≤ f → (∀ u ∈ l, u < 65536) →
    ∃ m, decL f (encL g l) = some m ∧ (loneL g l = false → m = l)
  | n, [], f, g, _, _, _, _ => by
    have e : encL g [] = [] := by cases g <;> rfl
    rw [e]
    exact ⟨[], by cases f <;> simp [decL], fun _ => rfl⟩
  | 0, u :: r, f, g, hn, _, _, _ => by simp at hn
  | n + 1, u :: r, f, g + 1, hn, hg, hf, hu => by
    have hu0 : u < 65536 := hu u (by simp)
    -- a unit in no pair, the rest behind it
    have one : ∀ r', (r' = r) → encL (g + 1) (u :: r) = oneU u ++ encL g r → (loneL (g + 1) (u :: r) = false → hiB u = false ∧ loB u = false ∧ loneL g r = false) → ∃ m, decL f (encL (g + 1) (u :: r)) = some m ∧ (loneL (g + 1) (u :: r) = false → m = u :: r) := by
      intro r' _ he hlone
      rw [he] at hf ⊢
      rw [List.length_append] at hf
      by_cases hs : 55296 ≤ u ∧ u < 57344
      · have e1 : oneU u = esc u := by
          unfold oneU
          rw [if_pos]
          simp [hiB, loB]
          omega
        rw [e1] at hf ⊢
        have h6 : (esc u).length = 6 := rfl
        obtain ⟨f', rfl⟩ : ∃ f', f = f' + 6 := ⟨f - 6, by omega⟩
        obtain ⟨m, hm, _⟩ := back2 n r f' g (by simp at hn; omega) (by simp at hg; omega) (by omega) (fun x hx => hu x (by simp [hx]))
        refine ⟨92 :: 117 :: (hx (u / 4096)).toNat :: (hx (u / 256 % 16)).toNat :: (hx (u / 16 % 16)).toNat :: (hx (u % 16)).toNat :: m, ?_, fun hl => ?_⟩
        · show decL (f' + 6) (92 :: 117 :: hx (u / 4096) :: hx (u / 256 % 16) :: hx (u / 16 % 16) :: hx (u % 16) :: encL g r) = _
          rw [decL_ascii _ 92 (by decide), decL_ascii _ 117 (by decide), decL_ascii _ _ (hx_lt _ (by omega)), decL_ascii _ _ (hx_lt _ (by omega)), decL_ascii _ _ (hx_lt _ (by omega)), decL_ascii _ _ (hx_lt _ (by omega)), hm]
          rfl
        · have := hlone hl
          simp [hiB, loB] at this
          omega
      · rw [oneU_plain u hs] at hf ⊢
        have hok : okP u := ⟨by omega, by omega⟩
        have h1 := (enc_ne u).2
        obtain ⟨f', rfl⟩ : ∃ f', f = f' + 1 := ⟨f - 1, by omega⟩
        obtain ⟨m, hm, hm2⟩ := back2 n r f' g (by simp at hn; omega) (by simp at hg; omega) (by omega) (fun x hx => hu x (by simp [hx]))
        refine ⟨u :: m, ?_, fun hl => by rw [hm2 (hlone hl).2.2]⟩
        rw [decL_enc f' u hok, hm]
        have e : pu u = [u] := by unfold pu; rw [if_pos hu0]
        rw [e]
        rfl
    match r with
    | [] =>
      refine one [] rfl rfl fun hl => ?_
      simp only [loneL] at hl
      by_cases a : hiB u = true
      · rw [if_pos a] at hl; cases hl
      · rw [if_neg a] at hl
        simp at hl
        exact ⟨by simpa using a, hl.1, hl.2⟩
    | v :: r2 =>
      by_cases hp : hiB u = true ∧ loB v = true
      · have he : encL (g + 1) (u :: v :: r2) = Lib.encodeRune ((65536 + (u - 55296) * 1024 + (v - 56320) : Nat) : Int) ++ encL g r2 := by
          simp only [encL]; rw [if_pos hp]
        have hb : 55296 ≤ u ∧ u < 56320 ∧ 56320 ≤ v ∧ v < 57344 := by
          have a := hp.1; have b := hp.2
          simp [hiB] at a; simp [loB] at b
          omega
        have hok : okP (65536 + (u - 55296) * 1024 + (v - 56320)) := ⟨by omega, by omega⟩
        rw [he] at hf ⊢
        rw [List.length_append] at hf
        have h1 := (enc_ne (65536 + (u - 55296) * 1024 + (v - 56320))).2
        obtain ⟨f', rfl⟩ : ∃ f', f = f' + 1 := ⟨f - 1, by omega⟩
        obtain ⟨m, hm, hm2⟩ := back2 n r2 f' g (by simp at hn; omega) (by simp at hg; omega) (by omega) (fun x hx => hu x (by simp [hx]))
        refine ⟨u :: v :: m, ?_, fun hl => ?_⟩
        · rw [decL_enc f' _ hok, hm]
          have e : pu (65536 + (u - 55296) * 1024 + (v - 56320)) = [u, v] := by
            unfold pu
            rw [if_neg (by omega)]
            have x1 : (65536 + (u - 55296) * 1024 + (v - 56320) - 65536) / 1024 = u - 55296 := by omega
            have x2 : (65536 + (u - 55296) * 1024 + (v - 56320) - 65536) % 1024 = v - 56320 := by omega
            rw [x1, x2, show 55296 + (u - 55296) = u by omega, show 56320 + (v - 56320) = v by omega]
          rw [e]
          rfl
        · simp only [loneL] at hl
          rw [if_pos hp.1] at hl
          simp at hl
          rw [hm2 hl.2]
      · refine one (v :: r2) rfl (by simp only [encL]; rw [if_neg hp]) fun hl => ?_
        simp only [loneL] at hl
        by_cases a : hiB u = true
        · rw [if_pos a] at hl
          simp at hl
          exact absurd ⟨a, hl.1⟩ hp
        · rw [if_neg a] at hl
          simp at hl
          exact ⟨by simpa using a, hl.1, hl.2⟩
  | _ + 1, _ :: _, _, 0, _, hg, _, _ => by simp at hg
theorem decL_len : ∀ (f : Nat) (l : List UInt8) (m : List Nat), decL f l = some m → m.length ≤ 2 * l.length
  | 0, l, m, h => by simp [decL] at h; subst h; simp
  | f + 1, l, m, h => by
    by_cases h0 : l = []
    · subst h0; simp [decL] at h; subst h; simp
    · simp only [decL, h0, if_false] at h
      by_cases h2 : (ptL l).2 = 0
      · rw [if_pos h2] at h; cases h
      · rw [if_neg h2] at h
        obtain ⟨m', hm', rfl⟩ := Option.map_eq_some_iff.1 h
        obtain ⟨_, _, h1, h3⟩ := enc_pt l h2 h0
        have ih := decL_len f _ m' hm'
        rw [List.length_drop] at ih
        have := pu_length (ptL l).1
        rw [List.length_append]
        omega
theorem encL_len : ∀ (g : Nat) (l : List Nat), (encL g l).length ≤ 6 * l.length
  | 0, l => by simp [encL]
  | g + 1, [] => by simp [encL]
  | g + 1, [u] => by
    have := oneU_le u
    have := encL_len g []
    simp only [encL, List.length_append, List.length_cons, List.length_nil] at *
    omega
  | g + 1, u :: v :: r => by
    have h1 := encL_len g r
    have h2 := encL_len g (v :: r)
    have h3 := oneU_le u
    simp only [encL]
    split
    · have h4 := enc_le ((65536 + (u - 55296) * 1024 + (v - 56320) : Nat) : Int)
      simp only [List.length_append, List.length_cons] at *
      omega
    · simp only [List.length_append, List.length_cons] at *
      omega
/-- Is a unit of the text alone? -/
def loneS (s : ByteArray) : Bool := loneL (ln s) (us s)
theorem us_of (l : List Nat) (h : ∀ u ∈ l, u < 65536) : us ⟨(bL l).toArray⟩ = l := by
  unfold us
  exact uL_bL l h
theorem back_dec (b : ByteArray) (l : List Nat) (h : decS b = .inr l) : encS ⟨(bL l).toArray⟩ = b.data.toList ∧ l.length ≤ 2 * b.size := by
  have h1 := decS_decL b
  rw [h] at h1
  have h2 := back1 b.size b.data.toList l (by rw [← Lib.size_eq]; exact Nat.le_refl _) h1.symm
  have h3 := decL_len _ _ _ h1.symm
  rw [← Lib.size_eq] at h3
  refine ⟨?_, h3⟩
  rw [encS_encL, us_of l h2.1]
  apply h2.2
  have := us_length ⟨(bL l).toArray⟩
  rw [us_of l h2.1] at this
  omega
theorem back_enc (s : ByteArray) : ∃ m, decS ⟨(encS s).toArray⟩ = .inr m ∧ (loneS s = false → m = us s) := by
  have hl := us_length s
  obtain ⟨m, hm, hm2⟩ := back2 (ln s) (us s) (encS s).length (ln s) (by omega) (by omega) (by rw [encS_encL]; exact Nat.le_refl _) (us_lt s)
  have h1 := decS_decL ⟨(encS s).toArray⟩
  have e1 : (⟨(encS s).toArray⟩ : ByteArray).data.toList = encS s := by simp
  have e2 : (⟨(encS s).toArray⟩ : ByteArray).size = (encS s).length := by simp [ByteArray.size]
  rw [e1, e2] at h1
  rw [← encS_encL] at hm
  rw [hm] at h1
  cases h : decS ⟨(encS s).toArray⟩ with
  | inl i => rw [h] at h1; simp [toOpt] at h1
  | inr x =>
    rw [h] at h1
    simp [toOpt] at h1
    subst h1
    exact ⟨x, rfl, hm2⟩
theorem encS_len (s : ByteArray) : (encS s).length ≤ 6 * ln s := by
  rw [encS_encL]
  have := encL_len (ln s) (us s)
  rw [us_length] at this
  exact this
theorem loneL_hi (s : ByteArray) (f k : Nat) (h : k < ln s) (hh : hiB (un s k) = true) : loneL (f + 1) ((us s).drop k) = (!(loB (un s (k + 1))) || loneL f ((us s).drop (k + 2))) := by
  rw [us_drop s k h]
  by_cases h2 : k + 1 < ln s
  · rw [us_drop s (k + 1) h2]
    simp only [loneL]
    rw [if_pos hh]
  · have hd : (us s).drop (k + 1) = [] := List.drop_eq_nil_iff.2 (by rw [us_length]; omega)
    have hd2 : (us s).drop (k + 2) = [] := List.drop_eq_nil_iff.2 (by rw [us_length]; omega)
    have h0 : un s (k + 1) = 0 := by
      unfold un
      rw [List.getD_eq_getElem?_getD, List.getElem?_eq_none (by rw [us_length]; omega)]
      rfl
    rw [hd, hd2, h0]
    simp only [loneL]
    rw [if_pos hh]
    rfl
theorem loneL_not (s : ByteArray) (f k : Nat) (h : k < ln s) (hh : hiB (un s k) = false) : loneL (f + 1) ((us s).drop k) = (loB (un s k) || loneL f ((us s).drop (k + 1))) := by
  rw [us_drop s k h]
  by_cases h2 : k + 1 < ln s
  · rw [us_drop s (k + 1) h2]
    simp only [loneL]
    rw [if_neg (by rw [hh]; simp)]
  · have hd : (us s).drop (k + 1) = [] := List.drop_eq_nil_iff.2 (by rw [us_length]; omega)
    rw [hd]
    simp only [loneL]
    rw [if_neg (by rw [hh]; simp)]
theorem loneL_end (s : ByteArray) (f k : Nat) (h : ¬ k < ln s) : loneL f ((us s).drop k) = false := by
  have hd : (us s).drop k = [] := List.drop_eq_nil_iff.2 (by rw [us_length]; omega)
  rw [hd]
  cases f <;> rfl
end Go.Proofs.YthnkidncjkhndaaDoor
