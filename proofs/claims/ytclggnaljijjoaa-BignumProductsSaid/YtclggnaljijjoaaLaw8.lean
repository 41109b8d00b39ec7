/-
  The law BignumRing.
-/
import Derived.Test.YtclggnaljijjoaaRsub
namespace Go.Proofs.Ytclggnaljijjoaa
open Go.RowKit
/-- A call that tells N words L, and no error. -/
def OneP (L : List Nat) (N : Nat) (w : World) (e : Ending) (w' : World) : Prop := ∃ A c, e = .returned (.tuple #[.slice A N c, .int .i64 0]) ∧ (N ≤ c ∧ RW w' w'.heap.size A L) ∧ Below w.heap.size w w'
theorem NatPost.one {v N : Nat} {w w' : World} {e : Ending} (h : NatPost v w e w') (hl : lngB v = false) (hN : (wds v).length = N) : OneP (wds v) N w e w' := by
  obtain ⟨A, c, h1, h2, h3⟩ := h.get hl
  rw [hN] at h1 h2
  exact ⟨A, c, h1, h2, h3⟩
theorem lng_of_len {v : Nat} (h : (wds v).length ≤ 1024) : lngB v = false := by
  unfold lngB
  exact decide_eq_false (by omega)
theorem addOne (A C : Option Addr) (n c m d : Nat) (l k : List Nat) (v N : Nat) (w : World) (hn : l.length = n) (hc : n ≤ c) (h : RW w w.heap.size A l)
    (gn : k.length = m) (gc : m ≤ d) (g : RW w w.heap.size C k) (hs : n + m ≤ 1023) (hv : val l + val k = v) (hN : (wds v).length = N) :
    Calls Try.prog 21 #[.slice A n c, .slice C m d] w (OneP (wds v) N w) := by
  have h1 := wds_len_le h.1
  have h2 := wds_len_le g.1
  have h3 := sum_len_max (val l) (val k)
  refine (add_ok A C n c m d l k w hn hc (by omega) h gn gc (by omega) g (by rw [lng_of_len (by omega), lng_of_len (by omega)]; rfl)).mono fun e w' x => ?_
  rw [hv] at x h3
  exact x.one (lng_of_len (by omega)) hN
theorem mulOne (A C : Option Addr) (n c m d : Nat) (l k : List Nat) (v N : Nat) (w : World) (hn : l.length = n) (hc : n ≤ c) (h : RW w w.heap.size A l)
    (gn : k.length = m) (gc : m ≤ d) (g : RW w w.heap.size C k) (hs : n + m ≤ 1024) (hv : val l * val k = v) (hN : (wds v).length = N) :
    Calls Try.prog 25 #[.slice A n c, .slice C m d] w (OneP (wds v) N w) := by
  have h1 := wds_len_le h.1
  have h2 := wds_len_le g.1
  have h3 := prod_len_sum (val l) (val k)
  refine (mul_ok A C n c m d l k w hn hc (by omega) h gn gc (by omega) g (by rw [lng_of_len (by omega), lng_of_len (by omega)]; rfl)).mono fun e w' x => ?_
  rw [hv] at x h3
  exact x.one (lng_of_len (by omega)) hN
theorem subOne (A C : Option Addr) (n c m d : Nat) (l k : List Nat) (v N : Nat) (w : World) (hn : l.length = n) (hc : n ≤ c) (h : RW w w.heap.size A l)
    (gn : k.length = m) (gc : m ≤ d) (g : RW w w.heap.size C k) (hs : n ≤ 1024 ∧ m ≤ 1024) (hle : val k ≤ val l) (hv : val l - val k = v) (hN : (wds v).length = N) :
    Calls Try.prog 23 #[.slice A n c, .slice C m d] w (OneP (wds v) N w) := by
  have h1 := wds_len_le h.1
  have h2 := wds_len_le g.1
  have h3 := wds_mono (Nat.sub_le (val l) (val k))
  refine (sub_ok A C n c m d l k w hn hc (by omega) h gn gc (by omega) g (by rw [lng_of_len (by omega), lng_of_len (by omega)]; rfl) hle).mono fun e w' x => ?_
  rw [hv] at x h3
  exact x.one (lng_of_len (by omega)) hN
theorem addTwo (A C : Option Addr) (n c m d : Nat) (l k : List Nat) (v N : Nat) (w : World) (hn : l.length = n) (hc : n ≤ c) (h : RW w w.heap.size A l)
    (gn : k.length = m) (gc : m ≤ d) (g : RW w w.heap.size C k) (hs : n ≤ 1024) (hs2 : m ≤ 1024) (hv : val l + val k = v) (hN2 : N ≤ 1024) (hN : (wds v).length = N) :
    Calls Try.prog 21 #[.slice A n c, .slice C m d] w (OneP (wds v) N w) := by
  have h1 := wds_len_le h.1
  have h2 := wds_len_le g.1
  refine (add_ok A C n c m d l k w hn hc (by omega) h gn gc (by omega) g (by rw [lng_of_len (by omega), lng_of_len (by omega)]; rfl)).mono fun e w' x => ?_
  rw [hv] at x
  exact x.one (lng_of_len (by omega)) hN
set_option maxRecDepth 100000 in
set_option maxHeartbeats 8000000 in
theorem ring_small (A B C : Option Addr) (n c m d o q : Nat) (l k j : List Nat) (w : World) (hn : l.length = n) (hc : n ≤ c) (h : RW w w.heap.size A l)
    (gn : k.length = m) (g : RW w w.heap.size B k) (jn : j.length = o) (f : RW w w.heap.size C j) (hs : n + m ≤ 400) (hs2 : o ≤ 400) :
    Calls Try.prog 8 #[.slice A n c, .slice B m d, .slice C o q] w fun e w' => e = .returned (.bool true) ∧ Below w.heap.size w w' := by
  have hwl := wds_len_le h.1
  have hwk := wds_len_le g.1
  have hwj := wds_len_le f.1
  obtain ⟨NX, hNX⟩ : ∃ NX, (wds (val l + val k)).length = NX := ⟨_, rfl⟩
  obtain ⟨NZ, hNZ⟩ : ∃ NZ, (wds ((val l + val k) * val j)).length = NZ := ⟨_, rfl⟩
  obtain ⟨NP, hNP⟩ : ∃ NP, (wds (val l * val j)).length = NP := ⟨_, rfl⟩
  obtain ⟨NQ, hNQ⟩ : ∃ NQ, (wds (val j * val k)).length = NQ := ⟨_, rfl⟩
  obtain ⟨ND, hND⟩ : ∃ ND, (wds (val l)).length = ND := ⟨_, rfl⟩
  have lX : NX ≤ 401 := by have := sum_len_max (val l) (val k); omega
  have lZ : NZ ≤ 801 := by have := prod_len_sum (val l + val k) (val j); omega
  have lP : NP ≤ 800 := by have := prod_len_sum (val l) (val j); omega
  have lQ : NQ ≤ 800 := by have := prod_len_sum (val j) (val k); omega
  have hND2 : (nrm l).length = ND := by rw [nrm_wds h.1]; exact hND
  have KA := Lib.hid (fun W (hb : Below w.heap.size w W) => ownT A n c l W hn (by omega) (h.step hb))
  have KB := Lib.hid (fun W (hb : Below w.heap.size w W) => ownT B m d k W gn (by omega) (g.step hb))
  have KC := Lib.hid (fun W (hb : Below w.heap.size w W) => ownT C o q j W jn (by omega) (f.step hb))
  have KOX := Lib.hid (fun W A2 c2 (_ : NX ≤ c2) (r : RW W W.heap.size A2 (wds (val l + val k))) => ownT A2 NX c2 _ W hNX (by omega) r)
  have KOP := Lib.hid (fun W A2 c2 (_ : NP ≤ c2) (r : RW W W.heap.size A2 (wds (val l * val j))) => ownT A2 NP c2 _ W hNP (by omega) r)
  have KOQ := Lib.hid (fun W A2 c2 (_ : NQ ≤ c2) (r : RW W W.heap.size A2 (wds (val j * val k))) => ownT A2 NQ c2 _ W hNQ (by omega) r)
  have Kab := Lib.hid (fun W A2 C2 c2 d2 (h2 : n ≤ c2) (h3 : m ≤ d2) (r2 : RW W W.heap.size A2 l) (r3 : RW W W.heap.size C2 k) => addOne A2 C2 n c2 m d2 l k _ NX W hn h2 r2 gn h3 r3 (by omega) rfl hNX)
  have Kba := Lib.hid (fun W A2 C2 c2 d2 (h2 : m ≤ c2) (h3 : n ≤ d2) (r2 : RW W W.heap.size A2 k) (r3 : RW W W.heap.size C2 l) => addOne A2 C2 m c2 n d2 k l (val l + val k) NX W gn h2 r2 hn h3 r3 (by omega) (Nat.add_comm _ _) hNX)
  have Kxc := Lib.hid (fun W A2 C2 c2 d2 (h2 : NX ≤ c2) (h3 : o ≤ d2) (r2 : RW W W.heap.size A2 (wds (val l + val k))) (r3 : RW W W.heap.size C2 j) => mulOne A2 C2 NX c2 o d2 _ j ((val l + val k) * val j) NZ W hNX h2 r2 jn h3 r3 (by omega) (by rw [wds_val]) hNZ)
  have Kac := Lib.hid (fun W A2 C2 c2 d2 (h2 : n ≤ c2) (h3 : o ≤ d2) (r2 : RW W W.heap.size A2 l) (r3 : RW W W.heap.size C2 j) => mulOne A2 C2 n c2 o d2 l j (val l * val j) NP W hn h2 r2 jn h3 r3 (by omega) rfl hNP)
  have Kcb := Lib.hid (fun W A2 C2 c2 d2 (h2 : o ≤ c2) (h3 : m ≤ d2) (r2 : RW W W.heap.size A2 j) (r3 : RW W W.heap.size C2 k) => mulOne A2 C2 o c2 m d2 j k (val j * val k) NQ W jn h2 r2 gn h3 r3 (by omega) rfl hNQ)
  have Kpq := Lib.hid (fun W A2 C2 c2 d2 (h2 : NP ≤ c2) (h3 : NQ ≤ d2) (r2 : RW W W.heap.size A2 (wds (val l * val j))) (r3 : RW W W.heap.size C2 (wds (val j * val k))) => addTwo A2 C2 NP c2 NQ d2 _ _ ((val l + val k) * val j) NZ W hNP h2 r2 hNQ h3 r3 (by omega) (by omega) (by rw [wds_val, wds_val, Nat.add_mul, Nat.mul_comm (val j)]) (by omega) hNZ)
  have Kxb := Lib.hid (fun W A2 C2 c2 d2 (h2 : NX ≤ c2) (h3 : m ≤ d2) (r2 : RW W W.heap.size A2 (wds (val l + val k))) (r3 : RW W W.heap.size C2 k) => subOne A2 C2 NX c2 m d2 _ k (val l) ND W hNX h2 r2 gn h3 r3 (by omega) (by rw [wds_val]; omega) (by rw [wds_val]; omega) hND)
  have KS1 := Lib.hid (fun W A2 A3 c2 c3 (r2 : RW W W.heap.size A2 (wds (val l + val k))) (r3 : RW W W.heap.size A3 (wds (val l + val k))) => same_any A2 A3 NX c2 c3 _ W.heap.size W.heap.size W hNX (by omega) r2 r3)
  have KS2 := Lib.hid (fun W A2 A3 c2 c3 (r2 : RW W W.heap.size A2 (wds ((val l + val k) * val j))) (r3 : RW W W.heap.size A3 (wds ((val l + val k) * val j))) => same_any A2 A3 NZ c2 c3 _ W.heap.size W.heap.size W hNZ (by omega) r2 r3)
  have KS3 := Lib.hid (fun W A2 A3 c2 c3 (r2 : RW W W.heap.size A2 (wds (val l))) (r3 : RW W W.heap.size A3 (wds (val l))) => same_any A2 A3 ND c2 c3 _ W.heap.size W.heap.size W hND (by omega) r2 r3)
  have KN := Lib.hid (fun W (hb : Below w.heap.size w W) => show Calls Try.prog 13 #[.slice A n c] W (Told (wds (val l)) ND W) from by
    have := rnormT A n c l ND W hn hc (by omega) (h.step hb) hND2
    rw [nrm_wds h.1] at this
    exact this)
  have z1 : ¬ (400 : Int) < (n : Int) + (m : Int) := by omega
  have z2 : ¬ (400 : Int) < (o : Int) := by omega
  have z3 : (n : Int) + (m : Int) ≤ 9223372036854775807 := by omega
  clear hn hc h gn g jn f hs hs2 hwl hwk hwj hNX hNZ hNP hNQ hND lX lZ lP lQ hND2
  go_enter Try.func8, Try.ntmps8
  go_wp2_with fail
  refine (KA.out _ (Below.refl _ _)).mono ?_
  rintro e w1 ⟨A1, c1, rfl, ⟨hc1, r1⟩, b1⟩
  have B1 := b1
  clear b1
  go_wp2_with fail
  refine (KB.out _ B1).mono ?_
  rintro e w2 ⟨A2, c2, rfl, ⟨hc2, r2⟩, b2⟩
  replace r1 := r1.step b2
  have B2 := below_le B1 b2
  clear b2
  go_wp2_with fail
  refine (Kab.out _ _ _ _ _ hc1 hc2 r1 r2).mono ?_
  rintro e w3 ⟨A3, c3, rfl, ⟨hc3, r3⟩, b3⟩
  replace r1 := r1.step b3
  replace r2 := r2.step b3
  have B3 := below_le B2 b3
  clear b3
  clear r1 hc1
  clear r2 hc2
  go_wp2_with fail
  refine (KB.out _ B3).mono ?_
  rintro e w4 ⟨A4, c4, rfl, ⟨hc4, r4⟩, b4⟩
  replace r3 := r3.step b4
  have B4 := below_le B3 b4
  clear b4
  go_wp2_with fail
  refine (KA.out _ B4).mono ?_
  rintro e w5 ⟨A5, c5, rfl, ⟨hc5, r5⟩, b5⟩
  replace r3 := r3.step b5
  replace r4 := r4.step b5
  have B5 := below_le B4 b5
  clear b5
  go_wp2_with fail
  refine (Kba.out _ _ _ _ _ hc4 hc5 r4 r5).mono ?_
  rintro e w6 ⟨A6, c6, rfl, ⟨hc6, r6⟩, b6⟩
  replace r3 := r3.step b6
  replace r4 := r4.step b6
  replace r5 := r5.step b6
  have B6 := below_le B5 b6
  clear b6
  clear r4 hc4
  clear r5 hc5
  go_wp2_with fail
  refine (KOX.out _ _ _ hc3 r3).mono ?_
  rintro e w7 ⟨A7, c7, rfl, ⟨hc7, r7⟩, b7⟩
  replace r3 := r3.step b7
  replace r6 := r6.step b7
  have B7 := below_le B6 b7
  clear b7
  go_wp2_with fail
  refine (KC.out _ B7).mono ?_
  rintro e w8 ⟨A8, c8, rfl, ⟨hc8, r8⟩, b8⟩
  replace r3 := r3.step b8
  replace r6 := r6.step b8
  replace r7 := r7.step b8
  have B8 := below_le B7 b8
  clear b8
  go_wp2_with fail
  refine (Kxc.out _ _ _ _ _ hc7 hc8 r7 r8).mono ?_
  rintro e w9 ⟨A9, c9, rfl, ⟨hc9, r9⟩, b9⟩
  replace r3 := r3.step b9
  replace r6 := r6.step b9
  replace r7 := r7.step b9
  replace r8 := r8.step b9
  have B9 := below_le B8 b9
  clear b9
  clear r7 hc7
  clear r8 hc8
  go_wp2_with fail
  refine (KA.out _ B9).mono ?_
  rintro e w10 ⟨A10, c10, rfl, ⟨hc10, r10⟩, b10⟩
  replace r3 := r3.step b10
  replace r6 := r6.step b10
  replace r9 := r9.step b10
  have B10 := below_le B9 b10
  clear b10
  go_wp2_with fail
  refine (KC.out _ B10).mono ?_
  rintro e w11 ⟨A11, c11, rfl, ⟨hc11, r11⟩, b11⟩
  replace r3 := r3.step b11
  replace r6 := r6.step b11
  replace r9 := r9.step b11
  replace r10 := r10.step b11
  have B11 := below_le B10 b11
  clear b11
  go_wp2_with fail
  refine (Kac.out _ _ _ _ _ hc10 hc11 r10 r11).mono ?_
  rintro e w12 ⟨A12, c12, rfl, ⟨hc12, r12⟩, b12⟩
  replace r3 := r3.step b12
  replace r6 := r6.step b12
  replace r9 := r9.step b12
  replace r10 := r10.step b12
  replace r11 := r11.step b12
  have B12 := below_le B11 b12
  clear b12
  clear r10 hc10
  clear r11 hc11
  go_wp2_with fail
  refine (KC.out _ B12).mono ?_
  rintro e w13 ⟨A13, c13, rfl, ⟨hc13, r13⟩, b13⟩
  replace r3 := r3.step b13
  replace r6 := r6.step b13
  replace r9 := r9.step b13
  replace r12 := r12.step b13
  have B13 := below_le B12 b13
  clear b13
  go_wp2_with fail
  refine (KB.out _ B13).mono ?_
  rintro e w14 ⟨A14, c14, rfl, ⟨hc14, r14⟩, b14⟩
  replace r3 := r3.step b14
  replace r6 := r6.step b14
  replace r9 := r9.step b14
  replace r12 := r12.step b14
  replace r13 := r13.step b14
  have B14 := below_le B13 b14
  clear b14
  go_wp2_with fail
  refine (Kcb.out _ _ _ _ _ hc13 hc14 r13 r14).mono ?_
  rintro e w15 ⟨A15, c15, rfl, ⟨hc15, r15⟩, b15⟩
  replace r3 := r3.step b15
  replace r6 := r6.step b15
  replace r9 := r9.step b15
  replace r12 := r12.step b15
  replace r13 := r13.step b15
  replace r14 := r14.step b15
  have B15 := below_le B14 b15
  clear b15
  clear r13 hc13
  clear r14 hc14
  go_wp2_with fail
  refine (KOP.out _ _ _ hc12 r12).mono ?_
  rintro e w16 ⟨A16, c16, rfl, ⟨hc16, r16⟩, b16⟩
  replace r3 := r3.step b16
  replace r6 := r6.step b16
  replace r9 := r9.step b16
  replace r12 := r12.step b16
  replace r15 := r15.step b16
  have B16 := below_le B15 b16
  clear b16
  go_wp2_with fail
  refine (KOQ.out _ _ _ hc15 r15).mono ?_
  rintro e w17 ⟨A17, c17, rfl, ⟨hc17, r17⟩, b17⟩
  replace r3 := r3.step b17
  replace r6 := r6.step b17
  replace r9 := r9.step b17
  replace r12 := r12.step b17
  replace r15 := r15.step b17
  replace r16 := r16.step b17
  have B17 := below_le B16 b17
  clear b17
  go_wp2_with fail
  refine (Kpq.out _ _ _ _ _ hc16 hc17 r16 r17).mono ?_
  rintro e w18 ⟨A18, c18, rfl, ⟨hc18, r18⟩, b18⟩
  replace r3 := r3.step b18
  replace r6 := r6.step b18
  replace r9 := r9.step b18
  replace r12 := r12.step b18
  replace r15 := r15.step b18
  replace r16 := r16.step b18
  replace r17 := r17.step b18
  have B18 := below_le B17 b18
  clear b18
  clear r16 hc16
  clear r17 hc17
  go_wp2_with fail
  refine (KOX.out _ _ _ hc3 r3).mono ?_
  rintro e w19 ⟨A19, c19, rfl, ⟨hc19, r19⟩, b19⟩
  replace r3 := r3.step b19
  replace r6 := r6.step b19
  replace r9 := r9.step b19
  replace r12 := r12.step b19
  replace r15 := r15.step b19
  replace r18 := r18.step b19
  have B19 := below_le B18 b19
  clear b19
  go_wp2_with fail
  refine (KB.out _ B19).mono ?_
  rintro e w20 ⟨A20, c20, rfl, ⟨hc20, r20⟩, b20⟩
  replace r3 := r3.step b20
  replace r6 := r6.step b20
  replace r9 := r9.step b20
  replace r12 := r12.step b20
  replace r15 := r15.step b20
  replace r18 := r18.step b20
  replace r19 := r19.step b20
  have B20 := below_le B19 b20
  clear b20
  go_wp2_with fail
  refine (Kxb.out _ _ _ _ _ hc19 hc20 r19 r20).mono ?_
  rintro e w21 ⟨A21, c21, rfl, ⟨hc21, r21⟩, b21⟩
  replace r3 := r3.step b21
  replace r6 := r6.step b21
  replace r9 := r9.step b21
  replace r12 := r12.step b21
  replace r15 := r15.step b21
  replace r18 := r18.step b21
  replace r19 := r19.step b21
  replace r20 := r20.step b21
  have B21 := below_le B20 b21
  clear b21
  clear r19 hc19
  clear r20 hc20
  go_wp2_with fail
  refine (KS1.out _ _ _ _ _ r3 r6).mono ?_
  rintro e w' ⟨rfl, j1, rfl⟩
  go_wp2_with fail
  refine (KS2.out _ _ _ _ _ (r9.drewN j1) (r18.drewN j1)).mono ?_
  rintro e w' ⟨rfl, j2, rfl⟩
  have BD := below_drewN' B21 (j1 + j2)
  go_wp2_with fail
  refine (KN.out _ BD).mono ?_
  rintro e wn ⟨An, cn, rfl, ⟨hcn, rn⟩, bn⟩
  have BN := below_le BD bn
  have rd := RW.step (r21.drewN (j1 + j2)) bn
  go_wp2_with fail
  refine (KS3.out _ _ _ _ _ rd rn).mono ?_
  rintro e w' ⟨rfl, j3, rfl⟩
  have BE := below_drewN' BN j3
  go_wp2_with fail
  refine (awake_any _).mono ?_
  rintro e wz ⟨rfl, bz⟩
  have BZ := below_le BE bz
  go_wp2
  go_ret
  exact ⟨rfl, BZ⟩
theorem ring_any (A B C : Option Addr) (n c m d o q : Nat) (l k j : List Nat) (w : World) (hn : l.length = n) (hc : n ≤ c) (hm : n ≤ 35184372087808) (h : RW w w.heap.size A l)
    (gn : k.length = m) (gm : m ≤ 35184372087808) (g : RW w w.heap.size B k) (jn : j.length = o) (jm : o ≤ 35184372087808) (f : RW w w.heap.size C j) :
    Calls Try.prog 8 #[.slice A n c, .slice B m d, .slice C o q] w fun e w' => e = .returned (.bool true) ∧ Below w.heap.size w w' := by
  by_cases h1 : 400 < n + m
  · have z1 : (400 : Int) < (n : Int) + (m : Int) := by omega
    have z3 : (n : Int) + (m : Int) ≤ 9223372036854775807 := by omega
    clear hn hc hm h gn gm g jn jm f h1
    go_enter Try.func8, Try.ntmps8
    go_wp2_with fail
    refine (awake_any _).mono ?_
    rintro e wz ⟨rfl, bz⟩
    go_wp2
    go_ret
    exact ⟨rfl, bz⟩
  · by_cases h2 : 400 < o
    · have z1 : ¬ (400 : Int) < (n : Int) + (m : Int) := by omega
      have z2 : (400 : Int) < (o : Int) := by omega
      have z3 : (n : Int) + (m : Int) ≤ 9223372036854775807 := by omega
      clear hn hc hm h gn gm g jn jm f h1 h2
      go_enter Try.func8, Try.ntmps8
      go_wp2_with fail
      refine (awake_any _).mono ?_
      rintro e wz ⟨rfl, bz⟩
      go_wp2
      go_ret
      exact ⟨rfl, bz⟩
    · exact ring_small A B C n c m d o q l k j w hn hc h gn g jn f (by omega) (by omega)
end Go.Proofs.Ytclggnaljijjoaa
