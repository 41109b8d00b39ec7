/-
  Contracts of Int32 and Uint16 of both; the methods of one number.
-/
import Derived.Test.YtacmbbjmcdbcnaaU32
import Derived.Test.YtacmbbjmcdbcnaaUn
import Derived.Test.YtacmbbjmcdbcnaaBinN
namespace Go.Proofs.Ytacmbbjmcdbcnaa
open Go.RowKit
def i32V (x : Nat) : Int := wrap32 (u32V x : Nat)
theorem ni32_any (x : Nat) (w : World) (hx : x < 18446744073709551616) : Calls Try.prog 17 #[.float .f64 x] w fun e w' => e = .returned (.int .i32 (i32V x)) ∧ w = w' := by
  have C1 := Lib.hid (fun W => nu32_any x W hx)
  have h := Lib.hid (show wrap32 (u32V x : Nat) = i32V x from rfl)
  obtain ⟨v, hv⟩ : ∃ v, u32V x = v := ⟨_, rfl⟩
  obtain ⟨i, hi⟩ : ∃ i, i32V x = i := ⟨_, rfl⟩
  rw [hv] at C1 h
  rw [hi] at h ⊢
  clear hx hv hi
  go_enter Try.func17, Try.ntmps17
  go_wp2_with fail
  refine (C1.out _).mono ?_
  rintro e w' ⟨rfl, rfl⟩
  go_wp2
  go_ret
  exact ⟨congrArg (fun z => Ending.returned (.int .i32 z)) h.out, rfl⟩
theorem qi32_any (x : Nat) (w : World) (hx : x < 18446744073709551616) : Calls Try.prog 18 #[.float .f64 x] w fun e w' => e = .returned (.int .i32 (i32V x)) ∧ Below w.heap.size w w' := by
  have C1 := Lib.hid (fun W => qu32_any x W hx)
  have h := Lib.hid (show wrap32 (u32V x : Nat) = i32V x from rfl)
  obtain ⟨v, hv⟩ : ∃ v, u32V x = v := ⟨_, rfl⟩
  obtain ⟨i, hi⟩ : ∃ i, i32V x = i := ⟨_, rfl⟩
  rw [hv] at C1 h
  rw [hi] at h ⊢
  clear hx hv hi
  go_enter Try.func18, Try.ntmps18
  go_wp2_with fail
  refine (C1.out _).mono ?_
  rintro e w' ⟨rfl, b⟩
  go_wp2
  go_ret
  exact ⟨congrArg (fun z => Ending.returned (.int .i32 z)) h.out, b⟩
def u16V (x : Nat) : Int := IntKind.u16.wrap (u32V x : Nat)
theorem nu16_any (x : Nat) (w : World) (hx : x < 18446744073709551616) : Calls Try.prog 21 #[.float .f64 x] w fun e w' => e = .returned (.int .u16 (u16V x)) ∧ w = w' := by
  have C1 := Lib.hid (fun W => nu32_any x W hx)
  have h := Lib.hid (show IntKind.u16.wrap (u32V x : Nat) = u16V x from rfl)
  obtain ⟨v, hv⟩ : ∃ v, u32V x = v := ⟨_, rfl⟩
  obtain ⟨i, hi⟩ : ∃ i, u16V x = i := ⟨_, rfl⟩
  rw [hv] at C1 h
  rw [hi] at h ⊢
  clear hx hv hi
  go_enter Try.func21, Try.ntmps21
  go_wp2_with fail
  refine (C1.out _).mono ?_
  rintro e w' ⟨rfl, rfl⟩
  go_wp2
  go_ret
  exact ⟨congrArg (fun z => Ending.returned (.int .u16 z)) h.out, rfl⟩
theorem qu16_any (x : Nat) (w : World) (hx : x < 18446744073709551616) : Calls Try.prog 22 #[.float .f64 x] w fun e w' => e = .returned (.int .u16 (u16V x)) ∧ Below w.heap.size w w' := by
  have C1 := Lib.hid (fun W => qu32_any x W hx)
  have h := Lib.hid (show IntKind.u16.wrap (u32V x : Nat) = u16V x from rfl)
  obtain ⟨v, hv⟩ : ∃ v, u32V x = v := ⟨_, rfl⟩
  obtain ⟨i, hi⟩ : ∃ i, u16V x = i := ⟨_, rfl⟩
  rw [hv] at C1 h
  rw [hi] at h ⊢
  clear hx hv hi
  go_enter Try.func22, Try.ntmps22
  go_wp2_with fail
  refine (C1.out _).mono ?_
  rintro e w' ⟨rfl, b⟩
  go_wp2
  go_ret
  exact ⟨congrArg (fun z => Ending.returned (.int .u16 z)) h.out, b⟩
end Go.Proofs.Ytacmbbjmcdbcnaa
