/-
  Slices of floats in memory; own.
-/
import Derived.Test.YtacmbbjmcdbcnaaRA
import Derived.Test.YtacmbbjmcdbcnaaArgs
namespace Go.Proofs.Ytacmbbjmcdbcnaa
open Go.ChangeShapes Go.WideShapes Go.ChangeAt Go.RowKit
theorem infoF : (Try.prog.info? 22).map (fun i => (i.zero, i.size, i.bytes)) = some (some (.float .f64 0), 1, 8) := by kernel_rfl
def Fs (l : List Nat) : Prop := ∀ u ∈ l, u < 18446744073709551616
theorem Fs.nil : Fs [] := fun u h => by simp at h
/-- The cells from A on read as the floats l, in a block below B. -/
def RF (w : World) (B : Nat) (A : Option Addr) (l : List Nat) : Prop :=
  Fs l ∧ (0 < l.length → ∃ b off, A = some ⟨b, off, none⟩ ∧ b < B ∧ ∀ k u : Nat, l[k]? = some u → w.cell? ⟨b, off + k, none⟩ = some (.float .f64 u))
theorem RF.nil (w : World) (B : Nat) (A : Option Addr) : RF w B A [] := ⟨Fs.nil, fun h => by simp at h⟩
theorem RF.step {w w' : World} {A : Option Addr} {l : List Nat} (h : RF w w.heap.size A l) (hb : Below w.heap.size w w') : RF w' w'.heap.size A l := ⟨h.1, fun hl => by
  obtain ⟨b, off, e, h1, h2⟩ := h.2 hl
  exact ⟨b, off, e, Nat.lt_of_lt_of_le h1 hb.size, fun k u hu => (hb.cell (p := ⟨b, off + k, none⟩) h1).trans (h2 k u hu)⟩⟩
/-- A row of the call's own that holds the words l. -/
abbrev OwnFl (B : Nat) (l : List Nat) (v : Value) (w : World) : Prop := w.ownsRow B 22 1 v l.length (l.map fun u => Value.float .f64 u)
theorem OwnFl.nil (B : Nat) (w : World) : OwnFl B [] (.slice none 0 0) w := World.ownsRow_nil _ _ _ _
theorem OwnFl.rf {B : Nat} {l : List Nat} {v : Value} {w : World} (h : OwnFl B l v w) (hw : Fs l) : ∃ A c, v = .slice A l.length c ∧ l.length ≤ c ∧ RF w w.heap.size A l := by
  rcases h.2 with ⟨rfl, h0⟩ | ⟨g, cap, cur, rfl, hB, hg, hcap, hmax, hcur, htk⟩
  · obtain rfl : l = [] := List.eq_nil_of_length_eq_zero h0
    exact ⟨none, 0, rfl, Nat.le_refl _, RF.nil _ _ _⟩
  · refine ⟨_, cap, rfl, hcap, hw, fun hl => ⟨g, 0, rfl, (World.ownsRow.lt h g rfl).2, fun k u hu => ?_⟩⟩
    have := h.cells (g := g) rfl k (.float .f64 u) (by rw [List.getElem?_map, hu]; rfl)
    by_cases hz : k = 0
    · subst hz; simpa [Addr.add] using this
    · simpa [Addr.add, hz] using this
theorem OwnFl.cap {B : Nat} {l : List Nat} {A : Option Addr} {n c : Nat} {w : World} (h : OwnFl B l (.slice A n c) w) : n = l.length ∧ n ≤ c := by
  rcases h.2 with ⟨e, h0⟩ | ⟨g, cap, cur, e, hB, hg, hcap, hmax, hcur, htk⟩
  · cases e; exact ⟨by omega, Nat.le_refl _⟩
  · cases e; exact ⟨rfl, hcap⟩
theorem rf_news {w : World} {b off : Nat} {l : List Nat} (h : ∀ k u : Nat, l[k]? = some u → w.cell? ⟨b, off + k, none⟩ = some (.float .f64 u)) :
    ∀ (j : Nat) u, (l.map fun u => Value.float .f64 u)[j]? = some u → w.cell? ((⟨b, off, none⟩ : Addr).add j) = some u := by
  intro j u hu
  rw [List.getElem?_map] at hu
  cases e : l[j]? with
  | none => rw [e] at hu; cases hu
  | some x =>
    rw [e] at hu
    simp only [Option.map_some, Option.some.injEq] at hu
    subst hu
    have := h j x e
    by_cases hz : j = 0
    · subst hz; simpa [Addr.add] using this
    · simpa [Addr.add, hz] using this
theorem rf_one (l : List Nat) : ∀ u ∈ (l.map fun u => Value.float .f64 u), u.oneCell' = true := by
  intro u hu
  simp only [List.mem_map] at hu
  obtain ⟨x, _, rfl⟩ := hu
  rfl
def OwnFP (l : List Nat) (w : World) (e : Ending) (w' : World) : Prop := ∃ v, e = .returned v ∧ OwnFl w.heap.size l v w' ∧ Below w.heap.size w w'
set_option maxHeartbeats 1000000 in
theorem ownF_any (A : Option Addr) (n c : Nat) (l : List Nat) (w : World) (hn : l.length = n) (hm : n ≤ 17592186043904) (h : RF w w.heap.size A l) :
    Calls Try.prog 47 #[.slice A n c] w (OwnFP l w) := by
  obtain ⟨i0, hi, hz0, hz1, hz2⟩ := info_parts infoF
  rcases A with _ | ad
  · have h0 : l = [] := by
      cases l with
      | nil => rfl
      | cons x r =>
        obtain ⟨b, off, e, _⟩ := h.2 (by simp)
        cases e
    subst h0
    subst hn
    go_enter Try.func47, Try.ntmps47
    go_wp2_with (at_builtin; refine wp_append_zero rfl _ _ 43 rfl w.heap.size 22 i0 1 Try.underlying43 hi _ 0 [] c rfl (World.ownsRow_nil _ _ _ _) rfl ?_)
    go_ret
    exact ⟨_, rfl, OwnFl.nil _ _, Below.refl _ _⟩
  · have hcs : ∀ (j : Nat) u, (l.map fun u => Value.float .f64 u)[j]? = some u → w.cell? (ad.add j) = some u := by
      rcases Nat.eq_zero_or_pos l.length with h0 | h0
      · obtain rfl : l = [] := List.eq_nil_of_length_eq_zero h0
        intro j u hu
        simp at hu
      · obtain ⟨b, off, e, _, hc⟩ := h.2 h0
        cases e
        exact rf_news hc
    have HC := Lib.hid hcs
    have HN := Lib.hid hn
    have HM := Lib.hid hm
    clear h hcs hn hm
    go_enter Try.func47, Try.ntmps47
    go_wp2_with (at_builtin; refine wpList_append_own _ rfl _ _ 43 rfl w.heap.size 22 i0 (.float .f64 0) 1 8 Try.underlying43 hi hz0 hz1 hz2 rfl (by decide) _ 0 [] rfl (World.ownsRow_nil _ _ _ _) ad n c (l.map fun u => Value.float .f64 u) rfl ?c0 ?c1 ?c2 ?c3 ?c4 ?c5 ?_)
    case c0 => have := HN.out; simp; omega
    case c1 => exact HC.out
    case c2 => exact rf_one l
    case c3 => have := HM.out; unfold maxLen; omega
    case c4 => have := HM.out; omega
    case c5 => exact Nat.le_refl _
    intro v' w1 hown hg _
    have HO := Lib.hid hown
    clear hown
    go_wp2
    go_ret
    refine ⟨_, rfl, ?_, (Below.refl _ _).grown hg (Nat.le_refl _) (fun k hk => by simp [Value.ownBlock] at hk)⟩
    have := HO.out
    rw [← HN.out] at this
    exact this
def numF {H : Type} (y : DataW H × List MemPlace) : Nat := match y.1 with | .lit (.float _ n) => n | _ => 0
theorem trod_f64 {H : Type} {enc : TypeId × Value → H} {P : Program} {w : World} {base : Nat} {spare : Nat → Bool} {held : Bool} {fuel : Nat} {t : TypeId} {cs : List Value} {x : DataW H × List MemPlace} {k : FloatKind} (ht : P.underlying t = some (.float k)) (h : DataW.trod enc P w base spare held fuel t cs = some x) : ∃ n, cs = [.float k n] ∧ x = (.lit (.float k n), []) ∧ (Lit.float k n).wf = true := by
  cases fuel with
  | zero => simp [DataW.trod] at h
  | succ n =>
    unfold DataW.trod at h
    rw [ht] at h
    split at h <;> simp_all
theorem bytesF : Try.prog.bytesOf 22 = 8 := by kernel_rfl
theorem floats_open {H : Type} {enc : TypeId × Value → H} {W : World} {a : Option Addr} {len cap : Nat} {d : DataW H} {p : List MemPlace}
    (h : DataW.Trod enc Try.prog W 0 (fun _ => true) true 43 (.slice a len cap) d p) :
    ∃ ls : List Nat, ls.length = len ∧ len ≤ cap ∧ RF W W.heap.size a ls ∧ (len = 0 ∨ ∃ es sp, d = .slice es sp ∧ es.length = len) := by
  obtain ⟨fuel, hf⟩ := h
  rcases DataW.trod_slice Try.underlying43 hf with ⟨hcs, _⟩ | ⟨x, l, c, elems, rest, n, _, hcs, hx, hb, hl, hm, hlen, hel, hsp, hns⟩
  · simp [Value.cells] at hcs
    obtain ⟨rfl, rfl, rfl⟩ := hcs
    exact ⟨[], rfl, Nat.le_refl _, RF.nil _ _ _, .inl rfl⟩
  · simp [Value.cells] at hcs
    obtain ⟨rfl, rfl, rfl⟩ := hcs
    have each : ∀ i y, elems[i]? = some y → W.cell? (x.add i) = some (.float .f64 (numF y)) ∧ numF y < 18446744073709551616 := by
      intro i y hy
      have hi : i < len := by have := (List.getElem?_eq_some_iff.1 hy).1; omega
      have h1 := hel i hi
      rw [hy, show Try.prog.cellsOf 22 = 1 by kernel_rfl, Nat.mul_one, Option.bind_eq_some_iff] at h1
      obtain ⟨cs', h2, h3⟩ := h1
      obtain ⟨m, rfl, rfl, hw⟩ := trod_f64 Try.underlying22 h3
      exact ⟨cell_of_cells?_one h2, wf_float hw⟩
    by_cases h0 : len = 0
    · subst h0
      exact ⟨[], rfl, hl, RF.nil _ _ _, .inl rfl⟩
    · obtain ⟨b, off, spot⟩ := x
      have hfst := (each 0 (elems[0]'(by omega)) (List.getElem?_eq_getElem (by omega))).1
      have hspot : spot = none := by simpa [Addr.add] using World.cell?_spot hfst
      subst hspot
      have hbl : b < W.heap.size := by
        rcases Nat.lt_or_ge b W.heap.size with h' | h'
        · exact h'
        · simp [World.cell?, Addr.add, Array.getElem?_eq_none h'] at hfst
      refine ⟨elems.map numF, by simp; exact hlen, hl, ⟨?_, fun _ => ⟨b, off, rfl, hbl, ?_⟩⟩, .inr ⟨elems.map (·.1), rest.map (·.1), by simpa using congrArg Prod.fst hx, by simp; exact hlen⟩⟩
      · intro u hu
        obtain ⟨y, hy, rfl⟩ := List.mem_map.1 hu
        obtain ⟨i, hi⟩ := List.getElem?_of_mem hy
        exact (each i y hi).2
      · intro k u hk
        rw [List.getElem?_map] at hk
        obtain ⟨y, hy, rfl⟩ := Option.map_eq_some_iff.1 hk
        have h1 := (each k y hy).1
        by_cases hk0 : k = 0
        · subst hk0; simpa [Addr.add] using h1
        · simpa [Addr.add, hk0] using h1
theorem floats_reach {H : Type} {ts : List TypeId} {ds : List (DataW H)} (h : (DataW.weightsEach Try.prog ts ds).all (· ≤ reachBytes) = true) {j : Nat} {d : DataW H} {len : Nat} (ht : ts[j]? = some 43) (hd : ds[j]? = some d)
    (hs : len = 0 ∨ ∃ es sp, d = .slice es sp ∧ es.length = len) : len ≤ 17592186043904 := by
  rcases hs with rfl | ⟨es, sp, rfl, rfl⟩
  · omega
  · have := sized_slice h ht hd Try.underlying43
    rw [bytesF] at this
    have e : reachBytes = 140737488351232 := rfl
    rw [e] at this
    omega
end Go.Proofs.Ytacmbbjmcdbcnaa
