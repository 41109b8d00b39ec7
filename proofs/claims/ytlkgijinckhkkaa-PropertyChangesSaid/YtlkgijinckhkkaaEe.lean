/-
  Two values held against each other as a whole (`x == y` of structs).
-/
import Derived.Test.YtlkgijinckhkkaaF0
import Derived.Laws.StructEq
import Derived.Laws.Cover2
namespace Go.Proofs.Ytlkgijinckhkkaa
open Go.RowKit
/-- What Go's `==` tells of two values. -/
def eqW (x y : Val) : Bool := x.vk == y.vk && (x.vb == y.vb && (oeq x.vn y.vn && (x.vs.toList == y.vs.toList && x.vo == y.vo)))
theorem run_equalIn_float {P : Program} (w : World) (d : Nat) (t : TypeId) (k k' : FloatKind) (a b : Nat) (h : P.underlying t = some (.float k')) : (Op.equalIn (d + 1) t (.float k a) (.float k b)).run P w = .ok (k.format.order a b == some .eq) w := by
  simp [Op.equalIn, run_underlying h, Op.floatEq]
set_option maxRecDepth 100000 in
theorem equalIn_val (x y : Val) (w : World) (d : Nat) : (Op.equalIn (d + 2) 24 (.agg (celV x)) (.agg (celV y))).run Try.prog w = .ok (eqW x y) w := by
  rw [run_equalIn_struct w (d + 1) 24 (celV x) (celV y) (by kernel_rfl) (by kernel_rfl)]
  have ei := fun (a b : Int) (W : World) => run_equalIn_int (P := Try.prog) W d 3 .i64 .i64 a b Try.underlying3
  have eb := fun (a b : Bool) (W : World) => run_equalIn_bool' (P := Try.prog) W d 4 a b Try.underlying4
  have ef := fun (a b : Nat) (W : World) => run_equalIn_float (P := Try.prog) W d 22 .f64 .f64 a b Try.underlying22
  have es := fun (a b : ByteArray) (W : World) => run_equalIn_string (P := Try.prog) W d 9 a b Try.underlying9
  rw [show Try.prog.fieldsOf 24 = _ from by unfold Program.fieldsOf; rw [Try.underlying24]]
  unfold eqW celV oeq
  go_simp
  repeat' split
  all_goals simp_all
theorem eql_vals (x y : Val) (w : World) : (binOp .eql 24 (.agg (celV x)) (.agg (celV y))).run Try.prog w = .ok (.bool (eqW x y)) w := by
  rw [run_eql_struct, equalIn_val]
  rfl
theorem neq_vals (x y : Val) (w : World) : (binOp .neq 24 (.agg (celV x)) (.agg (celV y))).run Try.prog w = .ok (.bool (!eqW x y)) w := by
  rw [run_neq_struct, equalIn_val]
  rfl
theorem eql_vl (x : Val) (k : Int) (b : Bool) (n : Nat) (s : ByteArray) (o : Int) (w : World) : (binOp .eql 24 (.agg (celV x)) (.agg #[.int .i64 k, .bool b, .float .f64 n, .string s, .int .i64 o])).run Try.prog w = .ok (.bool (eqW x ⟨k, b, n, s, o⟩)) w := eql_vals x ⟨k, b, n, s, o⟩ w
theorem eql_lv (x : Val) (k : Int) (b : Bool) (n : Nat) (s : ByteArray) (o : Int) (w : World) : (binOp .eql 24 (.agg #[.int .i64 k, .bool b, .float .f64 n, .string s, .int .i64 o]) (.agg (celV x))).run Try.prog w = .ok (.bool (eqW ⟨k, b, n, s, o⟩ x)) w := eql_vals ⟨k, b, n, s, o⟩ x w
theorem eql_va (x y : Val) (w : World) : (binOp .eql 24 (valV x) (valV y)).run Try.prog w = .ok (.bool (eqW x y)) w := eql_vals x y w
theorem eql_val (x : Val) (k : Int) (b : Bool) (n : Nat) (s : ByteArray) (o : Int) (w : World) : (binOp .eql 24 (valV x) (.agg #[.int .i64 k, .bool b, .float .f64 n, .string s, .int .i64 o])).run Try.prog w = .ok (.bool (eqW x ⟨k, b, n, s, o⟩)) w := eql_vals x ⟨k, b, n, s, o⟩ w
theorem neq_vl (x : Val) (k : Int) (b : Bool) (n : Nat) (s : ByteArray) (o : Int) (w : World) : (binOp .neq 24 (.agg (celV x)) (.agg #[.int .i64 k, .bool b, .float .f64 n, .string s, .int .i64 o])).run Try.prog w = .ok (.bool (!eqW x ⟨k, b, n, s, o⟩)) w := neq_vals x ⟨k, b, n, s, o⟩ w
theorem neq_lv (x : Val) (k : Int) (b : Bool) (n : Nat) (s : ByteArray) (o : Int) (w : World) : (binOp .neq 24 (.agg #[.int .i64 k, .bool b, .float .f64 n, .string s, .int .i64 o]) (.agg (celV x))).run Try.prog w = .ok (.bool (!eqW ⟨k, b, n, s, o⟩ x)) w := neq_vals ⟨k, b, n, s, o⟩ x w
theorem neq_va (x y : Val) (w : World) : (binOp .neq 24 (valV x) (valV y)).run Try.prog w = .ok (.bool (!eqW x y)) w := neq_vals x y w
theorem neq_val (x : Val) (k : Int) (b : Bool) (n : Nat) (s : ByteArray) (o : Int) (w : World) : (binOp .neq 24 (valV x) (.agg #[.int .i64 k, .bool b, .float .f64 n, .string s, .int .i64 o])).run Try.prog w = .ok (.bool (!eqW x ⟨k, b, n, s, o⟩)) w := neq_vals x ⟨k, b, n, s, o⟩ w
end Go.Proofs.Ytlkgijinckhkkaa
