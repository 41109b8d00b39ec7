/-
  Two values held against each other as a whole (`x == y` of structs).
-/
import Derived.Laws.StructEq
import Derived.Laws.Cover2
import Derived.Deep.RegionHeld3
import Derived.Deep.WholeRow
import Derived.Laws.Rows
import Derived.Laws.Tables
import Derived.Laws.EntriesVeiled
import Derived.Laws.FloatArith
import Derived.Laws.Externs
import Derived.Deep.RegionWith
import Ieee.Arith
import GoSem.Core.Float
import GoSem.Core.Utf8
import Derived.WalkKit
import Derived.WalkSpells
import Derived.WalkLawsBesides
import Derived.Deep.QuietTactic
import Derived.BigQuiet
import Derived.Lib.Hide
import Derived.Deep.OwnRows
import Derived.Laws.CopyOwn
import Derived.Deep.AppendLies
import Derived.Lib.BitFns
import Derived.Lib.Strings
import Derived.Laws.BitsAllLaws
import Derived.Lib.LaidTab
import Derived.Lib.ItoaNum
import Derived.Deep.DeepCutAuto
import Derived.ProofKit
import Derived.OpenShut
import Derived.SizedLaws
import Derived.Laws.BytesString
import Derived.Laws.Cells
import Derived.BigRegion
import Derived.Test.YtmlgjijjkikkhaaGreatDoorProg
import Derived.Test.YtmlgjijjkikkhaaGreatDoorRows
import Derived.Test.YtmlgjijjkikkhaaGreatDoorShelf
import Derived.Test.YtmlgjijjkikkhaaGreatDoorF0
namespace Go.Proofs.YtmlgjijjkikkhaaGreatDoor
open Go.RowKit
/-- What Go's `==` tells of two values. -/
def eqW (x y : Val) : Bool := x.vk == y.vk && (x.vb == y.vb && (oeq x.vn y.vn && (x.vs.toList == y.vs.toList && x.vo == y.vo)))
theorem run_equalIn_float {P : Program} (w : World) (d : Nat) (t : TypeId) (k k' : FloatKind) (a b : Nat) (h : P.underlying t = some (.float k')) : (Op.equalIn (d + 1) t (.float k a) (.float k b)).run P w = .ok (k.format.order a b == some .eq) w := by
  simp [Op.equalIn, run_underlying h, Op.floatEq]
set_option maxRecDepth 100000 in
theorem equalIn_val (x y : Val) (w : World) (d : Nat) : (Op.equalIn (d + 2) 57 (.agg (celV x)) (.agg (celV y))).run Tryz.prog w = .ok (eqW x y) w := by
  rw [run_equalIn_struct w (d + 1) 57 (celV x) (celV y) (by kernel_rfl) (by kernel_rfl)]
  have ei := fun (a b : Int) (W : World) => run_equalIn_int (P := Tryz.prog) W d 3 .i64 .i64 a b Tryz.underlying3
  have eb := fun (a b : Bool) (W : World) => run_equalIn_bool' (P := Tryz.prog) W d 4 a b Tryz.underlying4
  have ef := fun (a b : Nat) (W : World) => run_equalIn_float (P := Tryz.prog) W d 41 .f64 .f64 a b Tryz.underlying41
  have es := fun (a b : ByteArray) (W : World) => run_equalIn_string (P := Tryz.prog) W d 9 a b Tryz.underlying9
  rw [show Tryz.prog.fieldsOf 57 = _ from by unfold Program.fieldsOf; rw [Tryz.underlying57]]
  unfold eqW celV oeq
  go_simp
  repeat' split
  all_goals simp_all
theorem eql_vals (x y : Val) (w : World) : (binOp .eql 57 (.agg (celV x)) (.agg (celV y))).run Tryz.prog w = .ok (.bool (eqW x y)) w := by
  rw [run_eql_struct, equalIn_val]
  rfl
theorem neq_vals (x y : Val) (w : World) : (binOp .neq 57 (.agg (celV x)) (.agg (celV y))).run Tryz.prog w = .ok (.bool (!eqW x y)) w := by
  rw [run_neq_struct, equalIn_val]
  rfl
theorem eql_vl (x : Val) (k : Int) (b : Bool) (n : Nat) (s : ByteArray) (o : Int) (w : World) : (binOp .eql 57 (.agg (celV x)) (.agg #[.int .i64 k, .bool b, .float .f64 n, .string s, .int .i64 o])).run Tryz.prog w = .ok (.bool (eqW x ⟨k, b, n, s, o⟩)) w := eql_vals x ⟨k, b, n, s, o⟩ w
theorem eql_lv (x : Val) (k : Int) (b : Bool) (n : Nat) (s : ByteArray) (o : Int) (w : World) : (binOp .eql 57 (.agg #[.int .i64 k, .bool b, .float .f64 n, .string s, .int .i64 o]) (.agg (celV x))).run Tryz.prog w = .ok (.bool (eqW ⟨k, b, n, s, o⟩ x)) w := eql_vals ⟨k, b, n, s, o⟩ x w
theorem eql_va (x y : Val) (w : World) : (binOp .eql 57 (valV x) (valV y)).run Tryz.prog w = .ok (.bool (eqW x y)) w := eql_vals x y w
theorem eql_val (x : Val) (k : Int) (b : Bool) (n : Nat) (s : ByteArray) (o : Int) (w : World) : (binOp .eql 57 (valV x) (.agg #[.int .i64 k, .bool b, .float .f64 n, .string s, .int .i64 o])).run Tryz.prog w = .ok (.bool (eqW x ⟨k, b, n, s, o⟩)) w := eql_vals x ⟨k, b, n, s, o⟩ w
theorem neq_vl (x : Val) (k : Int) (b : Bool) (n : Nat) (s : ByteArray) (o : Int) (w : World) : (binOp .neq 57 (.agg (celV x)) (.agg #[.int .i64 k, .bool b, .float .f64 n, .string s, .int .i64 o])).run Tryz.prog w = .ok (.bool (!eqW x ⟨k, b, n, s, o⟩)) w := neq_vals x ⟨k, b, n, s, o⟩ w
theorem neq_lv (x : Val) (k : Int) (b : Bool) (n : Nat) (s : ByteArray) (o : Int) (w : World) : (binOp .neq 57 (.agg #[.int .i64 k, .bool b, .float .f64 n, .string s, .int .i64 o]) (.agg (celV x))).run Tryz.prog w = .ok (.bool (!eqW ⟨k, b, n, s, o⟩ x)) w := neq_vals ⟨k, b, n, s, o⟩ x w
theorem neq_va (x y : Val) (w : World) : (binOp .neq 57 (valV x) (valV y)).run Tryz.prog w = .ok (.bool (!eqW x y)) w := neq_vals x y w
theorem neq_val (x : Val) (k : Int) (b : Bool) (n : Nat) (s : ByteArray) (o : Int) (w : World) : (binOp .neq 57 (valV x) (.agg #[.int .i64 k, .bool b, .float .f64 n, .string s, .int .i64 o])).run Tryz.prog w = .ok (.bool (!eqW x ⟨k, b, n, s, o⟩)) w := neq_vals x ⟨k, b, n, s, o⟩ w

end Go.Proofs.YtmlgjijjkikkhaaGreatDoor
