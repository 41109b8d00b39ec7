/-
  Plain lemmas on UTF-8: the code point at a place by definition, the decoder's answer, the units of a text of UTF-8. No program in it.
-/
import Derived.Test.YthnkidncjkhndaaDoorText
import Derived.Lib.DecodeN
import Derived.Lib.RuneCountTail
import Derived.Shelf.Unicode.DecodeSlow
namespace Go.Proofs.YthnkidncjkhndaaDoor

/-- The code point at the beginning of four bytes, n of which are there, and its length; 0, 0: none. -/
def ptN (n b0 b1 b2 b3 : Nat) : Nat × Nat :=
  if b0 < 128 then (b0, 1)
  else if 194 ≤ b0 ∧ b0 < 224 ∧ (1 < n ∧ b1 / 64 = 2) then (b0 % 32 * 64 + b1 % 64, 2)
  else if 224 ≤ b0 ∧ b0 < 240 ∧ (1 < n ∧ b1 / 64 = 2) ∧ (2 < n ∧ b2 / 64 = 2) then
    (if 2048 ≤ b0 % 16 * 4096 + b1 % 64 * 64 + b2 % 64 ∧ (b0 % 16 * 4096 + b1 % 64 * 64 + b2 % 64 < 55296 ∨ 57343 < b0 % 16 * 4096 + b1 % 64 * 64 + b2 % 64)
     then (b0 % 16 * 4096 + b1 % 64 * 64 + b2 % 64, 3) else (0, 0))
  else if 240 ≤ b0 ∧ b0 < 245 ∧ (1 < n ∧ b1 / 64 = 2) ∧ (2 < n ∧ b2 / 64 = 2) ∧ (3 < n ∧ b3 / 64 = 2) then
    (if 65536 ≤ b0 % 8 * 262144 + b1 % 64 * 4096 + b2 % 64 * 64 + b3 % 64 ∧ b0 % 8 * 262144 + b1 % 64 * 4096 + b2 % 64 * 64 + b3 % 64 ≤ 1114111
     then (b0 % 8 * 262144 + b1 % 64 * 4096 + b2 % 64 * 64 + b3 % 64, 4) else (0, 0))
  else (0, 0)

set_option maxRecDepth 100000 in
set_option maxHeartbeats 4000000 in
theorem dec_ptN (n b0 b1 b2 b3 : Nat) (h0 : b0 < 256) : Lib.decodeN n b0 b1 b2 b3 = if (ptN n b0 b1 b2 b3).2 = 0 then (65533, 1) else ptN n b0 b1 b2 b3 := by
  unfold Lib.decodeN ptN
  repeat' split
  all_goals first | rfl | (exfalso; omega) | (apply Prod.ext <;> simp only <;> omega)

/-- .. of a text's bytes from a place on. -/
def ptS (s : ByteArray) (i : Nat) : Nat × Nat := ptN (s.size - i) (s.get! i).toNat (s.get! (i + 1)).toNat (s.get! (i + 2)).toNat (s.get! (i + 3)).toNat

theorem ptN_ok (n b0 b1 b2 b3 : Nat) (hn : 1 ≤ n) (h : (ptN n b0 b1 b2 b3).2 ≠ 0) : (ptN n b0 b1 b2 b3).2 ≤ 4 ∧ (ptN n b0 b1 b2 b3).2 ≤ n ∧ (ptN n b0 b1 b2 b3).1 ≤ 1114111 ∧ ((ptN n b0 b1 b2 b3).1 < 55296 ∨ 57343 < (ptN n b0 b1 b2 b3).1)
    ∧ ((ptN n b0 b1 b2 b3).2 = 1 → (ptN n b0 b1 b2 b3).1 < 128) ∧ (65536 ≤ (ptN n b0 b1 b2 b3).1 → (ptN n b0 b1 b2 b3).2 = 4) := by
  unfold ptN at h ⊢
  repeat' split
  all_goals simp_all
  all_goals omega

theorem ptS_ok (s : ByteArray) (i : Nat) (hi : i < s.size) (h : (ptS s i).2 ≠ 0) : (ptS s i).2 ≤ 4 ∧ i + (ptS s i).2 ≤ s.size ∧ (ptS s i).1 ≤ 1114111 ∧ ((ptS s i).1 < 55296 ∨ 57343 < (ptS s i).1)
    ∧ ((ptS s i).2 = 1 → (ptS s i).1 < 128) ∧ (65536 ≤ (ptS s i).1 → (ptS s i).2 = 4) := by
  have := ptN_ok (s.size - i) (s.get! i).toNat (s.get! (i + 1)).toNat (s.get! (i + 2)).toNat (s.get! (i + 3)).toNat (by omega) h
  obtain ⟨a, b, c, d, e, f⟩ := this
  exact ⟨a, by show i + (ptN _ _ _ _ _).2 ≤ _; omega, c, d, e, f⟩

theorem decodeGo_ptS (s : ByteArray) (i : Nat) (hi : i < s.size) : Lib.decodeGo (s.extract i s.size) = if (ptS s i).2 = 0 then (65533, 1) else ptS s i := by
  have hz : (s.extract i s.size).size = s.size - i := by simp
  unfold Lib.decodeGo
  rw [if_neg (by omega), Lib.decode_at, hz, Lib.tail_get!, Lib.tail_get!, Lib.tail_get!, Lib.tail_get!]
  exact dec_ptN _ _ _ _ _ (UInt8.toNat_lt _)

/-- The units of a code point. -/
def pu (p : Nat) : List Nat := if p < 65536 then [p] else [55296 + (p - 65536) / 1024, 56320 + (p - 65536) % 1024]
theorem pu_lt (p : Nat) (h : p ≤ 1114111) : ∀ u ∈ pu p, u < 65536 := by
  intro u hu
  unfold pu at hu
  split at hu <;> simp at hu <;> omega
theorem pu_length (p : Nat) : (pu p).length ≤ 2 := by unfold pu; split <;> simp

/-- What was read, put behind what was read before. -/
def glue (l : List Nat) : Nat ⊕ List Nat → Nat ⊕ List Nat
  | .inl i => .inl i
  | .inr m => .inr (l ++ m)
theorem glue_nil (x : Nat ⊕ List Nat) : glue [] x = x := by cases x <;> rfl
theorem glue_glue (a b : List Nat) (x : Nat ⊕ List Nat) : glue a (glue b x) = glue (a ++ b) x := by cases x <;> simp [glue]
/-- The units of a text's bytes from a place on, or where a code point is none. -/
def decF (s : ByteArray) : Nat → Nat → Nat ⊕ List Nat
  | 0, _ => .inr []
  | f + 1, i => if i < s.size then (if (ptS s i).2 = 0 then .inl i else glue (pu (ptS s i).1) (decF s f (i + (ptS s i).2))) else .inr []
def decS (s : ByteArray) : Nat ⊕ List Nat := decF s s.size 0
theorem decF_end (s : ByteArray) (f i : Nat) (h : ¬ i < s.size) : decF s f i = .inr [] := by
  cases f <;> simp [decF, h]
theorem decF_bad (s : ByteArray) (f i : Nat) (h : i < s.size) (hb : (ptS s i).2 = 0) : decF s (f + 1) i = .inl i := by simp [decF, h, hb]
theorem decF_go (s : ByteArray) (f i : Nat) (h : i < s.size) (hb : (ptS s i).2 ≠ 0) : decF s (f + 1) i = glue (pu (ptS s i).1) (decF s f (i + (ptS s i).2)) := by simp [decF, h, hb]
/-- The text, the place and the error's number. -/
def decT : Nat ⊕ List Nat → List UInt8
  | .inl _ => []
  | .inr l => bL l
def decI : Nat ⊕ List Nat → Nat
  | .inl i => i
  | .inr _ => 0
def decE : Nat ⊕ List Nat → Nat
  | .inl _ => 10
  | .inr _ => 0
end Go.Proofs.YthnkidncjkhndaaDoor
