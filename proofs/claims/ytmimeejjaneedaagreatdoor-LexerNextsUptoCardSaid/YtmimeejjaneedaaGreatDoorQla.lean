/-
  Merged texts (Shelf, BA, BP, Dp, Dc, Dh, Us, La, Na, Nb, Nf, Ng).
-/
import Derived.Shelf.Strings.SlTrimAscii
import Derived.Shelf.Strings.Builder1
import Derived.Shelf.Strings.Builder2
import Derived.Shelf.Strings.OnBuilder
import Derived.Shelf.Strings.Trim
import Derived.Shelf.Small.Utf8
import Derived.Shelf.Small.Bits
import Derived.Shelf.Small.Strs
import Derived.Shelf.Small.Wraps
import Derived.Shelf.Strings.BuilderF
import Derived.Shelf.Strings.BuilderK
import Derived.Shelf.Strconv.Itoa0
import Derived.Shelf.Strings.Search1
import Derived.Shelf.Strings.Prefix
import Derived.Shelf.Unicode.Latin
import Derived.Shelf.Strings.Runes
import Derived.Shelf.Strings.AsciiSet
import Derived.Shelf.Bits.Mul64
import Derived.Shelf.Strings.Repeat
import Derived.Shelf.Unicode.DecodeSlow
import Derived.Shelf.Unicode.CaseLookup
import Derived.Shelf.Unicode.CaseConvert
import Derived.Shelf.Unicode.CaseTo
import Derived.Shelf.Unicode.CaseLaid
import Derived.Shelf.Strings.BuilderRune
import Derived.Shelf.Utf8.AppendRune
import Derived.Test.YtmimeejjaneedaaGreatDoorProg
import GoSem.Core.Utf8
import Derived.WalkKit
import Derived.WalkSpells
import Derived.WalkLawsBesides
import Derived.Deep.QuietTactic
import Derived.BigQuiet
import Derived.Lib.Hide
import Derived.Deep.OwnRows
import Derived.Laws.CopyOwn
import Derived.Deep.AppendLies
import Derived.Lib.BitFns
import Derived.Lib.Strings
import Derived.Laws.BitsAllLaws
import Derived.Lib.LaidTab
import Ieee.Arith
import GoSem.Core.Float
import Derived.Laws.BytesString
import Derived.Laws.Cells
import Derived.Deep.RegionHeld3
import Derived.Laws.Closers25b
import Derived.ProofKit
import Derived.OpenShut
import Derived.SizedLaws
import Derived.Deep.RegionWith
import Derived.BigRegion
import Derived.Laws.FloatArith
import Derived.Laws.Externs
import Derived.Lib.ItoaNum
import Derived.Deep.DeepCutAuto
import Derived.Deep.WholeRow
import Derived.Laws.Tables
import Derived.Laws.EntriesVeiled
import Derived.Lib.SlTrimSet
import Derived.Lib.Case
import Derived.Lib.AppendIntMem
import Derived.Test.YtmimeejjaneedaaGreatDoorRows
import Derived.OwnWalk
namespace Go.Proofs.YtmimeejjaneedaaGreatDoor
open Go.RowKit
abbrev Cp := Calls Tryz.prog
abbrev Ct (f : FuncId) (a : Array Value) (v : Value) (w : World) : Prop := Calls Tryz.prog f a w fun e w' => e = .returned v ∧ Below w.heap.size w w'
abbrev Cq (f : FuncId) (a : Array Value) (v : Value) (w : World) : Prop := Calls Tryz.prog f a w fun e w' => e = .returned v ∧ w = w'
theorem Lh {p : Prop} (h : p) : Hid p := Lib.hid h
theorem Sm {P : Program} {f : FuncId} {x : Array Value} {w : World} {E : Ending} {R : Ending → World → Prop} (h : Calls P f x w fun e w' => e = E ∧ w = w') (k : R E w) : Calls P f x w R := h.mono fun _ _ ⟨a, b⟩ => a ▸ b ▸ k
theorem Dm {P : Program} {f : FuncId} {x : Array Value} {w : World} {E : Ending} {R : Ending → World → Prop} (h : Calls P f x w fun e w' => e = E ∧ ∃ n, w' = w.drewN n) (k : ∀ n, R E (w.drewN n)) : Calls P f x w R := h.mono fun _ _ ⟨a, n, b⟩ => by subst a; subst b; exact k n
theorem Bm {P : Program} {f : FuncId} {x : Array Value} {w : World} {E : Ending} {Q : World → Prop} {R : Ending → World → Prop} (h : Calls P f x w fun e w' => e = E ∧ Q w') (k : ∀ w', Q w' → R E w') : Calls P f x w R := h.mono fun _ w' ⟨a, b⟩ => by subst a; exact k w' b
end Go.Proofs.YtmimeejjaneedaaGreatDoor
open Go.RowKit
set_option maxRecDepth 100000
set_option maxHeartbeats 40000000
namespace Go.Proofs.YtmimeejjaneedaaGreatDoor
end Go.Proofs.YtmimeejjaneedaaGreatDoor
namespace Go.Proofs
open Go.Shelf
def Tryz.lays169_ren : Go.Shelf.Ren := ⟨fun | 169 => 61 | n => n, fun | 70 => 83 | 9 => 9 | 0 => 0 | 72 => 85 | 37 => 60 | 127 => 120 | 3 => 3 | 5 => 5 | n => n, fun | n => n⟩
theorem Tryz.lays169 : Go.Proofs.Lays.n169 Tryz.prog Tryz.lays169_ren := {
 mixed := by kernel_rfl
 f169 := Tryz.func61.trans (congrArg some (by kernel_rfl))
 t0 := Tryz.underlying0
 a0 := Tryz.isAgg0
 z0 := Tryz.sizeOf0
 v0 := Tryz.zeroValue0
 t3 := Tryz.underlying3
 a3 := Tryz.isAgg3
 z3 := Tryz.sizeOf3
 v3 := Tryz.zeroValue3
 t9 := Tryz.underlying9
 a9 := Tryz.isAgg9
 z9 := Tryz.sizeOf9
 v9 := Tryz.zeroValue9
 t37 := Tryz.underlying60
 a37 := Tryz.isAgg60
 z37 := Tryz.sizeOf60
 v37 := Tryz.zeroValue60
 t70 := Tryz.underlying83
 a70 := Tryz.isAgg83
 z70 := Tryz.sizeOf83
 v70 := Tryz.zeroValue83
 t72 := Tryz.underlying85
 a72 := Tryz.isAgg85
 z72 := Tryz.sizeOf85
 v72 := Tryz.zeroValue85
 t127 := Tryz.underlying120
 a127 := Tryz.isAgg120
 z127 := Tryz.sizeOf120
 v127 := Tryz.zeroValue120 }
theorem Tryz.Builder_Extra_169 : Builder.Extra Tryz.prog Tryz.lays169_ren := {
 sizeBuilder := by kernel_rfl
 liesBuilder := by kernel_rfl
 t5 := Tryz.underlying5
 a5 := Tryz.isAgg5
 z5 := Tryz.sizeOf5
 v5 := Tryz.zeroValue5
 infoByte := by kernel_rfl
 cellsByte := by kernel_rfl
 sizeByte := by kernel_rfl
 neB5 := by decide }
def Tryz.lays165_ren : Go.Shelf.Ren := ⟨fun | 165 => 83 | 240 => 119 | 241 => 120 | 276 => 205 | 277 => 206 | n => n, fun | 70 => 83 | 3 => 3 | 0 => 0 | 4 => 4 | 9 => 9 | 20 => 20 | 72 => 85 | 37 => 60 | 164 => 153 | 5 => 5 | n => n, fun | n => n⟩
theorem Tryz.lays165 : Go.Proofs.Lays.n165 Tryz.prog Tryz.lays165_ren := {
 mixed := by kernel_rfl
 f165 := Tryz.func83.trans (congrArg some (by kernel_rfl))
 f240 := Tryz.func119.trans (congrArg some (by kernel_rfl))
 f241 := Tryz.func120.trans (congrArg some (by kernel_rfl))
 f276 := Tryz.func205.trans (congrArg some (by kernel_rfl))
 f277 := Tryz.func206.trans (congrArg some (by kernel_rfl))
 t0 := Tryz.underlying0
 a0 := Tryz.isAgg0
 z0 := Tryz.sizeOf0
 v0 := Tryz.zeroValue0
 t3 := Tryz.underlying3
 a3 := Tryz.isAgg3
 z3 := Tryz.sizeOf3
 v3 := Tryz.zeroValue3
 t4 := Tryz.underlying4
 a4 := Tryz.isAgg4
 z4 := Tryz.sizeOf4
 v4 := Tryz.zeroValue4
 t9 := Tryz.underlying9
 a9 := Tryz.isAgg9
 z9 := Tryz.sizeOf9
 v9 := Tryz.zeroValue9
 t20 := Tryz.underlying20
 a20 := Tryz.isAgg20
 z20 := Tryz.sizeOf20
 v20 := Tryz.zeroValue20
 t37 := Tryz.underlying60
 a37 := Tryz.isAgg60
 z37 := Tryz.sizeOf60
 v37 := Tryz.zeroValue60
 t70 := Tryz.underlying83
 a70 := Tryz.isAgg83
 z70 := Tryz.sizeOf83
 v70 := Tryz.zeroValue83
 t72 := Tryz.underlying85
 a72 := Tryz.isAgg85
 z72 := Tryz.sizeOf85
 v72 := Tryz.zeroValue85
 t164 := Tryz.underlying153
 a164 := Tryz.isAgg153
 z164 := Tryz.sizeOf153
 v164 := Tryz.zeroValue153 }
theorem Tryz.Builder_Extra_165 : Builder.Extra Tryz.prog Tryz.lays165_ren := {
 sizeBuilder := by kernel_rfl
 liesBuilder := by kernel_rfl
 t5 := Tryz.underlying5
 a5 := Tryz.isAgg5
 z5 := Tryz.sizeOf5
 v5 := Tryz.zeroValue5
 infoByte := by kernel_rfl
 cellsByte := by kernel_rfl
 sizeByte := by kernel_rfl
 neB5 := by decide }
open Go.RowKit in
theorem Tryz.Builder_Grow_fresh (B b n : Nat) (w : World) (hB : B ≤ b) (hbk : w.heap[b]? = some (.cells #[.pointer none, .slice none 0 0] 85 (0, 0))) (hBw : B ≤ w.heap.size) (hn : n ≤ 281474976710656) :
  Calls Tryz.prog 83 #[.pointer (some ⟨b, 0, none⟩), .int .i64 n] w fun e w' => e = .returned (.tuple #[]) ∧ (Lib.BuilderAt 85 5 B b (.pointer (some ⟨b, 0, none⟩)) [] w' ∧ Below B w w') := Any.Builder_Grow_fresh Tryz.lays165 Tryz.Builder_Extra_165 B b n w hB hbk hBw hn
def Tryz.lays159_ren : Go.Shelf.Ren := ⟨fun | 159 => 255 | 165 => 83 | 166 => 123 | 167 => 121 | 169 => 61 | 230 => 283 | 204 => 284 | 240 => 119 | 241 => 120 | 197 => 324 | 118 => 325 | 168 => 86 | 270 => 326 | 262 => 327 | 276 => 205 | 277 => 206 | 260 => 356 | 242 => 122 | 313 => 357 | 278 => 207 | 274 => 381 | 275 => 382 | n => n, fun | 9 => 9 | 4 => 4 | 3 => 3 | 5 => 5 | 72 => 85 | 0 => 0 | 76 => 113 | 75 => 112 | 107 => 194 | 70 => 83 | 20 => 20 | 37 => 60 | 127 => 120 | 21 => 21 | 105 => 232 | 164 => 153 | 162 => 263 | 203 => 261 | 119 => 281 | 46 => 110 | 139 => 284 | 138 => 283 | 51 => 156 | 160 => 285 | 208 => 299 | 206 => 297 | 80 => 89 | n => n, fun | 13 => 2 | 3 => 3 | 4 => 4 | n => n⟩
theorem Tryz.lays159 : Go.Proofs.Lays.n159 Tryz.prog Tryz.lays159_ren := {
 mixed := by kernel_rfl
 f118 := Tryz.func325.trans (congrArg some (by kernel_rfl))
 f159 := Tryz.func255.trans (congrArg some (by kernel_rfl))
 f165 := Tryz.func83.trans (congrArg some (by kernel_rfl))
 f166 := Tryz.func123.trans (congrArg some (by kernel_rfl))
 f167 := Tryz.func121.trans (congrArg some (by kernel_rfl))
 f168 := Tryz.func86.trans (congrArg some (by kernel_rfl))
 f169 := Tryz.func61.trans (congrArg some (by kernel_rfl))
 f197 := Tryz.func324.trans (congrArg some (by kernel_rfl))
 f204 := Tryz.func284.trans (congrArg some (by kernel_rfl))
 f230 := Tryz.func283.trans (congrArg some (by kernel_rfl))
 f240 := Tryz.func119.trans (congrArg some (by kernel_rfl))
 f241 := Tryz.func120.trans (congrArg some (by kernel_rfl))
 f242 := Tryz.func122.trans (congrArg some (by kernel_rfl))
 f260 := Tryz.func356.trans (congrArg some (by kernel_rfl))
 f262 := Tryz.func327.trans (congrArg some (by kernel_rfl))
 f270 := Tryz.func326.trans (congrArg some (by kernel_rfl))
 f274 := Tryz.func381.trans (congrArg some (by kernel_rfl))
 f275 := Tryz.func382.trans (congrArg some (by kernel_rfl))
 f276 := Tryz.func205.trans (congrArg some (by kernel_rfl))
 f277 := Tryz.func206.trans (congrArg some (by kernel_rfl))
 f278 := Tryz.func207.trans (congrArg some (by kernel_rfl))
 f313 := Tryz.func357.trans (congrArg some (by kernel_rfl))
 t0 := Tryz.underlying0
 a0 := Tryz.isAgg0
 z0 := Tryz.sizeOf0
 v0 := Tryz.zeroValue0
 t3 := Tryz.underlying3
 a3 := Tryz.isAgg3
 z3 := Tryz.sizeOf3
 v3 := Tryz.zeroValue3
 t4 := Tryz.underlying4
 a4 := Tryz.isAgg4
 z4 := Tryz.sizeOf4
 v4 := Tryz.zeroValue4
 t5 := Tryz.underlying5
 a5 := Tryz.isAgg5
 z5 := Tryz.sizeOf5
 v5 := Tryz.zeroValue5
 t9 := Tryz.underlying9
 a9 := Tryz.isAgg9
 z9 := Tryz.sizeOf9
 v9 := Tryz.zeroValue9
 t20 := Tryz.underlying20
 a20 := Tryz.isAgg20
 z20 := Tryz.sizeOf20
 v20 := Tryz.zeroValue20
 t21 := Tryz.underlying21
 a21 := Tryz.isAgg21
 z21 := Tryz.sizeOf21
 v21 := Tryz.zeroValue21
 t37 := Tryz.underlying60
 a37 := Tryz.isAgg60
 z37 := Tryz.sizeOf60
 v37 := Tryz.zeroValue60
 t46 := Tryz.underlying110
 a46 := Tryz.isAgg110
 z46 := Tryz.sizeOf110
 v46 := Tryz.zeroValue110
 t51 := Tryz.underlying156
 a51 := Tryz.isAgg156
 z51 := Tryz.sizeOf156
 v51 := Tryz.zeroValue156
 t70 := Tryz.underlying83
 a70 := Tryz.isAgg83
 z70 := Tryz.sizeOf83
 v70 := Tryz.zeroValue83
 t72 := Tryz.underlying85
 a72 := Tryz.isAgg85
 z72 := Tryz.sizeOf85
 v72 := Tryz.zeroValue85
 t75 := Tryz.underlying112
 a75 := Tryz.isAgg112
 z75 := Tryz.sizeOf112
 v75 := Tryz.zeroValue112
 t76 := Tryz.underlying113
 a76 := Tryz.isAgg113
 z76 := Tryz.sizeOf113
 v76 := Tryz.zeroValue113
 t105 := Tryz.underlying232
 a105 := Tryz.isAgg232
 z105 := Tryz.sizeOf232
 v105 := Tryz.zeroValue232
 t107 := Tryz.underlying194
 a107 := Tryz.isAgg194
 z107 := Tryz.sizeOf194
 v107 := Tryz.zeroValue194
 t119 := Tryz.underlying281
 a119 := Tryz.isAgg281
 z119 := Tryz.sizeOf281
 t127 := Tryz.underlying120
 a127 := Tryz.isAgg120
 z127 := Tryz.sizeOf120
 v127 := Tryz.zeroValue120
 t138 := Tryz.underlying283
 a138 := Tryz.isAgg283
 z138 := Tryz.sizeOf283
 v138 := Tryz.zeroValue283
 t139 := Tryz.underlying284
 a139 := Tryz.isAgg284
 z139 := Tryz.sizeOf284
 v139 := Tryz.zeroValue284
 t160 := Tryz.underlying285
 a160 := Tryz.isAgg285
 z160 := Tryz.sizeOf285
 v160 := Tryz.zeroValue285
 t162 := Tryz.underlying263
 a162 := Tryz.isAgg263
 z162 := Tryz.sizeOf263
 v162 := Tryz.zeroValue263
 t164 := Tryz.underlying153
 a164 := Tryz.isAgg153
 z164 := Tryz.sizeOf153
 v164 := Tryz.zeroValue153
 t203 := Tryz.underlying261
 a203 := Tryz.isAgg261
 z203 := Tryz.sizeOf261
 v203 := Tryz.zeroValue261
 t206 := Tryz.underlying297
 a206 := Tryz.isAgg297
 z206 := Tryz.sizeOf297
 v206 := Tryz.zeroValue297
 t208 := Tryz.underlying299
 a208 := Tryz.isAgg299
 z208 := Tryz.sizeOf299
 v208 := Tryz.zeroValue299
 g3 := by kernel_rfl
 g4 := by kernel_rfl
 g13 := by kernel_rfl }
theorem Tryz.Builder_Extra_159 : Builder.Extra Tryz.prog Tryz.lays159_ren := {
 sizeBuilder := by kernel_rfl
 liesBuilder := by kernel_rfl
 t5 := Tryz.underlying5
 a5 := Tryz.isAgg5
 z5 := Tryz.sizeOf5
 v5 := Tryz.zeroValue5
 infoByte := by kernel_rfl
 cellsByte := by kernel_rfl
 sizeByte := by kernel_rfl
 neB5 := by decide }
open Go.RowKit in
theorem Tryz.strings_ToLower_ascii (s : ByteArray) (w : World) (hs : s.size ≤ 140737488355328) (hascii : ∀ (j : Nat) (b : UInt8), s.data.toList[j]? = some b → b.toNat < 128) :
  Calls Tryz.prog 255 #[.string s] w fun e w' => e = .returned (.string ⟨(Lib.toLowerA s.data.toList).toArray⟩) ∧ Below w.heap.size w w' := Any.strings_ToLower_ascii Tryz.lays159 Tryz.Builder_Extra_159 s w hs hascii
def Tryz.lays161_ren : Go.Shelf.Ren := ⟨fun | 161 => 259 | 231 => 289 | 227 => 290 | 233 => 291 | 235 => 292 | 228 => 332 | 197 => 324 | 151 => 333 | 260 => 356 | 152 => 362 | 137 => 383 | 119 => 384 | 224 => 385 | 225 => 386 | 217 => 395 | 266 => 404 | n => n, fun | 9 => 9 | 4 => 4 | 3 => 3 | 5 => 5 | 117 => 201 | 116 => 200 | 0 => 0 | 124 => 204 | 105 => 232 | 21 => 21 | 119 => 281 | 46 => 110 | 139 => 284 | 138 => 283 | n => n, fun | 3 => 3 | 4 => 4 | n => n⟩
theorem Tryz.lays161 : Go.Proofs.Lays.n161 Tryz.prog Tryz.lays161_ren := {
 mixed := by kernel_rfl
 f119 := Tryz.func384.trans (congrArg some (by kernel_rfl))
 f137 := Tryz.func383.trans (congrArg some (by kernel_rfl))
 f151 := Tryz.func333.trans (congrArg some (by kernel_rfl))
 f152 := Tryz.func362.trans (congrArg some (by kernel_rfl))
 f161 := Tryz.func259.trans (congrArg some (by kernel_rfl))
 f197 := Tryz.func324.trans (congrArg some (by kernel_rfl))
 f217 := Tryz.func395.trans (congrArg some (by kernel_rfl))
 f224 := Tryz.func385.trans (congrArg some (by kernel_rfl))
 f225 := Tryz.func386.trans (congrArg some (by kernel_rfl))
 f227 := Tryz.func290.trans (congrArg some (by kernel_rfl))
 f228 := Tryz.func332.trans (congrArg some (by kernel_rfl))
 f231 := Tryz.func289.trans (congrArg some (by kernel_rfl))
 f233 := Tryz.func291.trans (congrArg some (by kernel_rfl))
 f235 := Tryz.func292.trans (congrArg some (by kernel_rfl))
 f260 := Tryz.func356.trans (congrArg some (by kernel_rfl))
 f266 := Tryz.func404.trans (congrArg some (by kernel_rfl))
 t0 := Tryz.underlying0
 a0 := Tryz.isAgg0
 z0 := Tryz.sizeOf0
 v0 := Tryz.zeroValue0
 t3 := Tryz.underlying3
 a3 := Tryz.isAgg3
 z3 := Tryz.sizeOf3
 v3 := Tryz.zeroValue3
 t4 := Tryz.underlying4
 a4 := Tryz.isAgg4
 z4 := Tryz.sizeOf4
 v4 := Tryz.zeroValue4
 t5 := Tryz.underlying5
 a5 := Tryz.isAgg5
 z5 := Tryz.sizeOf5
 v5 := Tryz.zeroValue5
 t9 := Tryz.underlying9
 a9 := Tryz.isAgg9
 z9 := Tryz.sizeOf9
 v9 := Tryz.zeroValue9
 t21 := Tryz.underlying21
 a21 := Tryz.isAgg21
 z21 := Tryz.sizeOf21
 v21 := Tryz.zeroValue21
 t46 := Tryz.underlying110
 a46 := Tryz.isAgg110
 z46 := Tryz.sizeOf110
 v46 := Tryz.zeroValue110
 t105 := Tryz.underlying232
 a105 := Tryz.isAgg232
 z105 := Tryz.sizeOf232
 v105 := Tryz.zeroValue232
 t116 := Tryz.underlying200
 a116 := Tryz.isAgg200
 z116 := Tryz.sizeOf200
 t117 := Tryz.underlying201
 a117 := Tryz.isAgg201
 z117 := Tryz.sizeOf201
 v117 := Tryz.zeroValue201
 t119 := Tryz.underlying281
 a119 := Tryz.isAgg281
 z119 := Tryz.sizeOf281
 t124 := Tryz.underlying204
 a124 := Tryz.isAgg204
 z124 := Tryz.sizeOf204
 v124 := Tryz.zeroValue204
 t138 := Tryz.underlying283
 a138 := Tryz.isAgg283
 z138 := Tryz.sizeOf283
 v138 := Tryz.zeroValue283
 t139 := Tryz.underlying284
 a139 := Tryz.isAgg284
 z139 := Tryz.sizeOf284
 v139 := Tryz.zeroValue284
 g3 := by kernel_rfl
 g4 := by kernel_rfl }
def Tryz.lays162_ren : Go.Shelf.Ren := ⟨fun | 162 => 260 | 232 => 293 | 227 => 290 | 234 => 294 | 236 => 295 | 228 => 332 | 271 => 334 | 151 => 333 | 120 => 363 | 197 => 324 | 152 => 362 | 260 => 356 | 137 => 383 | 119 => 384 | 224 => 385 | 225 => 386 | 217 => 395 | 266 => 404 | n => n, fun | 9 => 9 | 4 => 4 | 3 => 3 | 5 => 5 | 117 => 201 | 116 => 200 | 0 => 0 | 124 => 204 | 21 => 21 | 105 => 232 | 46 => 110 | 119 => 281 | 139 => 284 | 138 => 283 | n => n, fun | 3 => 3 | 4 => 4 | n => n⟩
theorem Tryz.lays162 : Go.Proofs.Lays.n162 Tryz.prog Tryz.lays162_ren := {
 mixed := by kernel_rfl
 f119 := Tryz.func384.trans (congrArg some (by kernel_rfl))
 f120 := Tryz.func363.trans (congrArg some (by kernel_rfl))
 f137 := Tryz.func383.trans (congrArg some (by kernel_rfl))
 f151 := Tryz.func333.trans (congrArg some (by kernel_rfl))
 f152 := Tryz.func362.trans (congrArg some (by kernel_rfl))
 f162 := Tryz.func260.trans (congrArg some (by kernel_rfl))
 f197 := Tryz.func324.trans (congrArg some (by kernel_rfl))
 f217 := Tryz.func395.trans (congrArg some (by kernel_rfl))
 f224 := Tryz.func385.trans (congrArg some (by kernel_rfl))
 f225 := Tryz.func386.trans (congrArg some (by kernel_rfl))
 f227 := Tryz.func290.trans (congrArg some (by kernel_rfl))
 f228 := Tryz.func332.trans (congrArg some (by kernel_rfl))
 f232 := Tryz.func293.trans (congrArg some (by kernel_rfl))
 f234 := Tryz.func294.trans (congrArg some (by kernel_rfl))
 f236 := Tryz.func295.trans (congrArg some (by kernel_rfl))
 f260 := Tryz.func356.trans (congrArg some (by kernel_rfl))
 f266 := Tryz.func404.trans (congrArg some (by kernel_rfl))
 f271 := Tryz.func334.trans (congrArg some (by kernel_rfl))
 t0 := Tryz.underlying0
 a0 := Tryz.isAgg0
 z0 := Tryz.sizeOf0
 v0 := Tryz.zeroValue0
 t3 := Tryz.underlying3
 a3 := Tryz.isAgg3
 z3 := Tryz.sizeOf3
 v3 := Tryz.zeroValue3
 t4 := Tryz.underlying4
 a4 := Tryz.isAgg4
 z4 := Tryz.sizeOf4
 v4 := Tryz.zeroValue4
 t5 := Tryz.underlying5
 a5 := Tryz.isAgg5
 z5 := Tryz.sizeOf5
 v5 := Tryz.zeroValue5
 t9 := Tryz.underlying9
 a9 := Tryz.isAgg9
 z9 := Tryz.sizeOf9
 v9 := Tryz.zeroValue9
 t21 := Tryz.underlying21
 a21 := Tryz.isAgg21
 z21 := Tryz.sizeOf21
 v21 := Tryz.zeroValue21
 t46 := Tryz.underlying110
 a46 := Tryz.isAgg110
 z46 := Tryz.sizeOf110
 v46 := Tryz.zeroValue110
 t105 := Tryz.underlying232
 a105 := Tryz.isAgg232
 z105 := Tryz.sizeOf232
 v105 := Tryz.zeroValue232
 t116 := Tryz.underlying200
 a116 := Tryz.isAgg200
 z116 := Tryz.sizeOf200
 t117 := Tryz.underlying201
 a117 := Tryz.isAgg201
 z117 := Tryz.sizeOf201
 v117 := Tryz.zeroValue201
 t119 := Tryz.underlying281
 a119 := Tryz.isAgg281
 z119 := Tryz.sizeOf281
 t124 := Tryz.underlying204
 a124 := Tryz.isAgg204
 z124 := Tryz.sizeOf204
 v124 := Tryz.zeroValue204
 t138 := Tryz.underlying283
 a138 := Tryz.isAgg283
 z138 := Tryz.sizeOf283
 v138 := Tryz.zeroValue283
 t139 := Tryz.underlying284
 a139 := Tryz.isAgg284
 z139 := Tryz.sizeOf284
 v139 := Tryz.zeroValue284
 g3 := by kernel_rfl
 g4 := by kernel_rfl }
def Tryz.lays128_ren : Go.Shelf.Ren := ⟨fun | 128 => 339 | n => n, fun | 51 => 156 | 3 => 3 | 4 => 4 | 46 => 110 | 5 => 5 | 9 => 9 | n => n, fun | n => n⟩
theorem Tryz.lays128 : Go.Proofs.Lays.n128 Tryz.prog Tryz.lays128_ren := {
 mixed := by kernel_rfl
 f128 := Tryz.func339.trans (congrArg some (by kernel_rfl))
 t3 := Tryz.underlying3
 a3 := Tryz.isAgg3
 z3 := Tryz.sizeOf3
 v3 := Tryz.zeroValue3
 t4 := Tryz.underlying4
 a4 := Tryz.isAgg4
 z4 := Tryz.sizeOf4
 v4 := Tryz.zeroValue4
 t5 := Tryz.underlying5
 a5 := Tryz.isAgg5
 z5 := Tryz.sizeOf5
 v5 := Tryz.zeroValue5
 t9 := Tryz.underlying9
 a9 := Tryz.isAgg9
 z9 := Tryz.sizeOf9
 v9 := Tryz.zeroValue9
 t46 := Tryz.underlying110
 a46 := Tryz.isAgg110
 z46 := Tryz.sizeOf110
 v46 := Tryz.zeroValue110
 t51 := Tryz.underlying156
 a51 := Tryz.isAgg156
 z51 := Tryz.sizeOf156
 v51 := Tryz.zeroValue156 }
theorem Tryz.bits_Len32 (x : Int) (w : World) (h0 : 0 ≤ x) (h1 : x ≤ 4294967295) :
  Calls Tryz.prog 339 #[.int .u32 x] w fun e w' => e = .returned (.int .i64 (Lib.bitLen x.toNat)) ∧ w' = w := Any.bits_Len32 Tryz.lays128 x w h0 h1
def Tryz.lays125_ren : Go.Shelf.Ren := ⟨fun | 125 => 364 | 128 => 339 | 129 => 342 | n => n, fun | 46 => 110 | 3 => 3 | 51 => 156 | 53 => 78 | 4 => 4 | 5 => 5 | 9 => 9 | n => n, fun | n => n⟩
theorem Tryz.lays125 : Go.Proofs.Lays.n125 Tryz.prog Tryz.lays125_ren := {
 mixed := by kernel_rfl
 f125 := Tryz.func364.trans (congrArg some (by kernel_rfl))
 f128 := Tryz.func339.trans (congrArg some (by kernel_rfl))
 f129 := Tryz.func342.trans (congrArg some (by kernel_rfl))
 t3 := Tryz.underlying3
 a3 := Tryz.isAgg3
 z3 := Tryz.sizeOf3
 v3 := Tryz.zeroValue3
 t4 := Tryz.underlying4
 a4 := Tryz.isAgg4
 z4 := Tryz.sizeOf4
 v4 := Tryz.zeroValue4
 t5 := Tryz.underlying5
 a5 := Tryz.isAgg5
 z5 := Tryz.sizeOf5
 v5 := Tryz.zeroValue5
 t9 := Tryz.underlying9
 a9 := Tryz.isAgg9
 z9 := Tryz.sizeOf9
 v9 := Tryz.zeroValue9
 t46 := Tryz.underlying110
 a46 := Tryz.isAgg110
 z46 := Tryz.sizeOf110
 v46 := Tryz.zeroValue110
 t51 := Tryz.underlying156
 a51 := Tryz.isAgg156
 z51 := Tryz.sizeOf156
 v51 := Tryz.zeroValue156
 t53 := Tryz.underlying78
 a53 := Tryz.isAgg78
 z53 := Tryz.sizeOf78
 v53 := Tryz.zeroValue78 }
theorem Tryz.bits_Len (x : Int) (w : World) (h0 : 0 ≤ x) (h1 : x ≤ 18446744073709551615) :
  Calls Tryz.prog 364 #[.int .u64 x] w fun e w' => e = .returned (.int .i64 (Lib.bitLen x.toNat)) ∧ w' = w := Any.bits_Len Tryz.lays125 x w h0 h1
def Tryz.lays133_ren : Go.Shelf.Ren := ⟨fun | 133 => 388 | 128 => 339 | n => n, fun | 51 => 156 | 3 => 3 | 4 => 4 | 46 => 110 | 5 => 5 | 9 => 9 | n => n, fun | n => n⟩
theorem Tryz.lays133 : Go.Proofs.Lays.n133 Tryz.prog Tryz.lays133_ren := {
 mixed := by kernel_rfl
 f128 := Tryz.func339.trans (congrArg some (by kernel_rfl))
 f133 := Tryz.func388.trans (congrArg some (by kernel_rfl))
 t3 := Tryz.underlying3
 a3 := Tryz.isAgg3
 z3 := Tryz.sizeOf3
 v3 := Tryz.zeroValue3
 t4 := Tryz.underlying4
 a4 := Tryz.isAgg4
 z4 := Tryz.sizeOf4
 v4 := Tryz.zeroValue4
 t5 := Tryz.underlying5
 a5 := Tryz.isAgg5
 z5 := Tryz.sizeOf5
 v5 := Tryz.zeroValue5
 t9 := Tryz.underlying9
 a9 := Tryz.isAgg9
 z9 := Tryz.sizeOf9
 v9 := Tryz.zeroValue9
 t46 := Tryz.underlying110
 a46 := Tryz.isAgg110
 z46 := Tryz.sizeOf110
 v46 := Tryz.zeroValue110
 t51 := Tryz.underlying156
 a51 := Tryz.isAgg156
 z51 := Tryz.sizeOf156
 v51 := Tryz.zeroValue156 }
theorem Tryz.bits_LeadingZeros32 (x : Int) (w : World) (h0 : 0 ≤ x) (h1 : x ≤ 4294967295) :
  Calls Tryz.prog 388 #[.int .u32 x] w fun e w' => e = .returned (.int .i64 (32 - (Lib.bitLen x.toNat : Int))) ∧ w' = w := Any.bits_LeadingZeros32 Tryz.lays133 x w h0 h1
def Tryz.lays103_ren : Go.Shelf.Ren := ⟨fun | 103 => 257 | 210 => 286 | 206 => 330 | n => n, fun | 9 => 9 | 4 => 4 | 24 => 171 | 3 => 3 | n => n, fun | n => n⟩
theorem Tryz.lays103 : Go.Proofs.Lays.n103 Tryz.prog Tryz.lays103_ren := {
 mixed := by kernel_rfl
 f103 := Tryz.func257.trans (congrArg some (by kernel_rfl))
 f206 := Tryz.func330.trans (congrArg some (by kernel_rfl))
 f210 := Tryz.func286.trans (congrArg some (by kernel_rfl))
 t3 := Tryz.underlying3
 a3 := Tryz.isAgg3
 z3 := Tryz.sizeOf3
 v3 := Tryz.zeroValue3
 t4 := Tryz.underlying4
 a4 := Tryz.isAgg4
 z4 := Tryz.sizeOf4
 v4 := Tryz.zeroValue4
 t9 := Tryz.underlying9
 a9 := Tryz.isAgg9
 z9 := Tryz.sizeOf9
 v9 := Tryz.zeroValue9
 t24 := Tryz.underlying171
 a24 := Tryz.isAgg171
 z24 := Tryz.sizeOf171
 v24 := Tryz.zeroValue171 }
open Go.RowKit in
theorem Tryz.strings_CutPrefix (s p : ByteArray) (w : World) :
  Calls Tryz.prog 257 #[.string s, .string p] w fun e w' => e = .returned (.tuple #[.string ⟨(Lib.trimPrefix s.data.toList p.data.toList).toArray⟩, .bool (Lib.hasPrefix s.data.toList p.data.toList)]) ∧ w' = w := Any.strings_CutPrefix Tryz.lays103 s p w
open Go.RowKit in
theorem Tryz.Builder_String_any_k (B b : Nat) (l : List UInt8) (w : World) (h : Lib.IsBuilderF 85 5 B b (Lib.byteCells l) w) (hBw : B ≤ w.heap.size) :
  Calls Tryz.prog 61 #[.pointer (some ⟨b, 0, none⟩)] w fun e w' => e = .returned (.string ⟨l.toArray⟩) ∧ (Lib.IsBuilderF 85 5 B b (Lib.byteCells l) w' ∧ Below B w w' ∧ Lib.OthersKept 5 (some b) w w') := Any.Builder_String_any_k Tryz.lays169 Tryz.Builder_Extra_169 B b l w h hBw
def Tryz.lays129_ren : Go.Shelf.Ren := ⟨fun | 129 => 342 | n => n, fun | 53 => 78 | 3 => 3 | 4 => 4 | 46 => 110 | 5 => 5 | 9 => 9 | n => n, fun | n => n⟩
theorem Tryz.lays129 : Go.Proofs.Lays.n129 Tryz.prog Tryz.lays129_ren := {
 mixed := by kernel_rfl
 f129 := Tryz.func342.trans (congrArg some (by kernel_rfl))
 t3 := Tryz.underlying3
 a3 := Tryz.isAgg3
 z3 := Tryz.sizeOf3
 v3 := Tryz.zeroValue3
 t4 := Tryz.underlying4
 a4 := Tryz.isAgg4
 z4 := Tryz.sizeOf4
 v4 := Tryz.zeroValue4
 t5 := Tryz.underlying5
 a5 := Tryz.isAgg5
 z5 := Tryz.sizeOf5
 v5 := Tryz.zeroValue5
 t9 := Tryz.underlying9
 a9 := Tryz.isAgg9
 z9 := Tryz.sizeOf9
 v9 := Tryz.zeroValue9
 t46 := Tryz.underlying110
 a46 := Tryz.isAgg110
 z46 := Tryz.sizeOf110
 v46 := Tryz.zeroValue110
 t53 := Tryz.underlying78
 a53 := Tryz.isAgg78
 z53 := Tryz.sizeOf78
 v53 := Tryz.zeroValue78 }
theorem Tryz.bits_Len64 (x : Int) (w : World) (h0 : 0 ≤ x) (h1 : x ≤ 18446744073709551615) :
  Calls Tryz.prog 342 #[.int .u64 x] w fun e w' => e = .returned (.int .i64 (Lib.bitLen x.toNat)) ∧ w' = w := Any.bits_Len64 Tryz.lays129 x w h0 h1
def Tryz.lays101_ren : Go.Shelf.Ren := ⟨fun | 101 => 331 | 208 => 361 | 206 => 330 | n => n, fun | 9 => 9 | 4 => 4 | 3 => 3 | n => n, fun | n => n⟩
theorem Tryz.lays101 : Go.Proofs.Lays.n101 Tryz.prog Tryz.lays101_ren := {
 mixed := by kernel_rfl
 f101 := Tryz.func331.trans (congrArg some (by kernel_rfl))
 f206 := Tryz.func330.trans (congrArg some (by kernel_rfl))
 f208 := Tryz.func361.trans (congrArg some (by kernel_rfl))
 t3 := Tryz.underlying3
 a3 := Tryz.isAgg3
 z3 := Tryz.sizeOf3
 v3 := Tryz.zeroValue3
 t4 := Tryz.underlying4
 a4 := Tryz.isAgg4
 z4 := Tryz.sizeOf4
 v4 := Tryz.zeroValue4
 t9 := Tryz.underlying9
 a9 := Tryz.isAgg9
 z9 := Tryz.sizeOf9
 v9 := Tryz.zeroValue9 }
open Go.RowKit Go.Lib in
theorem Tryz.strings_TrimPrefix (s p : ByteArray) (w : World) :
  Calls Tryz.prog 331 #[.string s, .string p] w fun e w' => e = .returned (.string ⟨(Lib.trimPrefix s.data.toList p.data.toList).toArray⟩) ∧ w' = w := Any.strings_TrimPrefix Tryz.lays101 s p w
def Tryz.lays167_ren : Go.Shelf.Ren := ⟨fun | 167 => 121 | 240 => 119 | 276 => 205 | n => n, fun | 70 => 83 | 5 => 5 | 75 => 112 | 0 => 0 | 72 => 85 | 37 => 60 | 4 => 4 | 164 => 153 | 80 => 89 | 9 => 9 | 20 => 20 | n => n, fun | n => n⟩
theorem Tryz.lays167 : Go.Proofs.Lays.n167 Tryz.prog Tryz.lays167_ren := {
 mixed := by kernel_rfl
 f167 := Tryz.func121.trans (congrArg some (by kernel_rfl))
 f240 := Tryz.func119.trans (congrArg some (by kernel_rfl))
 f276 := Tryz.func205.trans (congrArg some (by kernel_rfl))
 t0 := Tryz.underlying0
 a0 := Tryz.isAgg0
 z0 := Tryz.sizeOf0
 v0 := Tryz.zeroValue0
 t4 := Tryz.underlying4
 a4 := Tryz.isAgg4
 z4 := Tryz.sizeOf4
 v4 := Tryz.zeroValue4
 t5 := Tryz.underlying5
 a5 := Tryz.isAgg5
 z5 := Tryz.sizeOf5
 v5 := Tryz.zeroValue5
 t9 := Tryz.underlying9
 a9 := Tryz.isAgg9
 z9 := Tryz.sizeOf9
 v9 := Tryz.zeroValue9
 t20 := Tryz.underlying20
 a20 := Tryz.isAgg20
 z20 := Tryz.sizeOf20
 v20 := Tryz.zeroValue20
 t37 := Tryz.underlying60
 a37 := Tryz.isAgg60
 z37 := Tryz.sizeOf60
 v37 := Tryz.zeroValue60
 t70 := Tryz.underlying83
 a70 := Tryz.isAgg83
 z70 := Tryz.sizeOf83
 v70 := Tryz.zeroValue83
 t72 := Tryz.underlying85
 a72 := Tryz.isAgg85
 z72 := Tryz.sizeOf85
 v72 := Tryz.zeroValue85
 t75 := Tryz.underlying112
 a75 := Tryz.isAgg112
 z75 := Tryz.sizeOf112
 v75 := Tryz.zeroValue112
 t164 := Tryz.underlying153
 a164 := Tryz.isAgg153
 z164 := Tryz.sizeOf153
 v164 := Tryz.zeroValue153 }
theorem Tryz.Builder_Extra_167 : Builder.Extra Tryz.prog Tryz.lays167_ren := {
 sizeBuilder := by kernel_rfl
 liesBuilder := by kernel_rfl
 t5 := Tryz.underlying5
 a5 := Tryz.isAgg5
 z5 := Tryz.sizeOf5
 v5 := Tryz.zeroValue5
 infoByte := by kernel_rfl
 cellsByte := by kernel_rfl
 sizeByte := by kernel_rfl
 neB5 := by decide }
def Tryz.lays166_ren : Go.Shelf.Ren := ⟨fun | 166 => 123 | 240 => 119 | 276 => 205 | n => n, fun | 70 => 83 | 9 => 9 | 3 => 3 | 75 => 112 | 0 => 0 | 72 => 85 | 37 => 60 | 4 => 4 | 164 => 153 | 80 => 89 | 5 => 5 | 20 => 20 | n => n, fun | n => n⟩
theorem Tryz.lays166 : Go.Proofs.Lays.n166 Tryz.prog Tryz.lays166_ren := {
 mixed := by kernel_rfl
 f166 := Tryz.func123.trans (congrArg some (by kernel_rfl))
 f240 := Tryz.func119.trans (congrArg some (by kernel_rfl))
 f276 := Tryz.func205.trans (congrArg some (by kernel_rfl))
 t0 := Tryz.underlying0
 a0 := Tryz.isAgg0
 z0 := Tryz.sizeOf0
 v0 := Tryz.zeroValue0
 t3 := Tryz.underlying3
 a3 := Tryz.isAgg3
 z3 := Tryz.sizeOf3
 v3 := Tryz.zeroValue3
 t4 := Tryz.underlying4
 a4 := Tryz.isAgg4
 z4 := Tryz.sizeOf4
 v4 := Tryz.zeroValue4
 t9 := Tryz.underlying9
 a9 := Tryz.isAgg9
 z9 := Tryz.sizeOf9
 v9 := Tryz.zeroValue9
 t20 := Tryz.underlying20
 a20 := Tryz.isAgg20
 z20 := Tryz.sizeOf20
 v20 := Tryz.zeroValue20
 t37 := Tryz.underlying60
 a37 := Tryz.isAgg60
 z37 := Tryz.sizeOf60
 v37 := Tryz.zeroValue60
 t70 := Tryz.underlying83
 a70 := Tryz.isAgg83
 z70 := Tryz.sizeOf83
 v70 := Tryz.zeroValue83
 t72 := Tryz.underlying85
 a72 := Tryz.isAgg85
 z72 := Tryz.sizeOf85
 v72 := Tryz.zeroValue85
 t75 := Tryz.underlying112
 a75 := Tryz.isAgg112
 z75 := Tryz.sizeOf112
 v75 := Tryz.zeroValue112
 t164 := Tryz.underlying153
 a164 := Tryz.isAgg153
 z164 := Tryz.sizeOf153
 v164 := Tryz.zeroValue153 }
theorem Tryz.Builder_Extra_166 : Builder.Extra Tryz.prog Tryz.lays166_ren := {
 sizeBuilder := by kernel_rfl
 liesBuilder := by kernel_rfl
 t5 := Tryz.underlying5
 a5 := Tryz.isAgg5
 z5 := Tryz.sizeOf5
 v5 := Tryz.zeroValue5
 infoByte := by kernel_rfl
 cellsByte := by kernel_rfl
 sizeByte := by kernel_rfl
 neB5 := by decide }
open Go.RowKit in
theorem Tryz.Builder_WriteByte_k (B b : Nat) (bs : List Value) (c : Int) (w : World) (h : Lib.IsBuilderF 85 5 B b bs w) (hlen : bs.length + 1 ≤ 140737488355328) (hBw : B ≤ w.heap.size) :
  Calls Tryz.prog 121 #[.pointer (some ⟨b, 0, none⟩), .int .u8 c] w fun e w' => e = .returned .nilIface ∧ (Lib.BuilderAtF 85 5 B b (.pointer (some ⟨b, 0, none⟩)) (bs ++ [.int .u8 c]) w' ∧ Below B w w' ∧ Lib.OthersKept 5 (some b) w w') := Any.Builder_WriteByte_k Tryz.lays167 Tryz.Builder_Extra_167 B b bs c w h hlen hBw
open Go.RowKit in
theorem Tryz.Builder_WriteString_k (B b : Nat) (bs : List Value) (s : ByteArray) (w : World) (h : Lib.IsBuilderF 85 5 B b bs w) (hlen : bs.length + s.size ≤ 140737488355328) (hBw : B ≤ w.heap.size) :
  Calls Tryz.prog 123 #[.pointer (some ⟨b, 0, none⟩), .string s] w fun e w' => e = .returned (.tuple #[.int .i64 s.size, .nilIface]) ∧ (Lib.BuilderAtF 85 5 B b (.pointer (some ⟨b, 0, none⟩)) (bs ++ Lib.strCells s) w' ∧ Below B w w' ∧ Lib.OthersKept 5 (some b) w w') := Any.Builder_WriteString_k Tryz.lays166 Tryz.Builder_Extra_166 B b bs s w h hlen hBw
def Tryz.lays168_ren : Go.Shelf.Ren := ⟨fun | 168 => 86 | 240 => 119 | 242 => 122 | 276 => 205 | 278 => 207 | n => n, fun | 70 => 83 | 21 => 21 | 3 => 3 | 75 => 112 | 0 => 0 | 72 => 85 | 37 => 60 | 4 => 4 | 164 => 153 | 51 => 156 | 5 => 5 | 46 => 110 | 80 => 89 | 9 => 9 | 20 => 20 | n => n, fun | n => n⟩
theorem Tryz.lays168 : Go.Proofs.Lays.n168 Tryz.prog Tryz.lays168_ren := {
 mixed := by kernel_rfl
 f168 := Tryz.func86.trans (congrArg some (by kernel_rfl))
 f240 := Tryz.func119.trans (congrArg some (by kernel_rfl))
 f242 := Tryz.func122.trans (congrArg some (by kernel_rfl))
 f276 := Tryz.func205.trans (congrArg some (by kernel_rfl))
 f278 := Tryz.func207.trans (congrArg some (by kernel_rfl))
 t0 := Tryz.underlying0
 a0 := Tryz.isAgg0
 z0 := Tryz.sizeOf0
 v0 := Tryz.zeroValue0
 t3 := Tryz.underlying3
 a3 := Tryz.isAgg3
 z3 := Tryz.sizeOf3
 v3 := Tryz.zeroValue3
 t4 := Tryz.underlying4
 a4 := Tryz.isAgg4
 z4 := Tryz.sizeOf4
 v4 := Tryz.zeroValue4
 t5 := Tryz.underlying5
 a5 := Tryz.isAgg5
 z5 := Tryz.sizeOf5
 v5 := Tryz.zeroValue5
 t9 := Tryz.underlying9
 a9 := Tryz.isAgg9
 z9 := Tryz.sizeOf9
 v9 := Tryz.zeroValue9
 t20 := Tryz.underlying20
 a20 := Tryz.isAgg20
 z20 := Tryz.sizeOf20
 v20 := Tryz.zeroValue20
 t21 := Tryz.underlying21
 a21 := Tryz.isAgg21
 z21 := Tryz.sizeOf21
 v21 := Tryz.zeroValue21
 t37 := Tryz.underlying60
 a37 := Tryz.isAgg60
 z37 := Tryz.sizeOf60
 v37 := Tryz.zeroValue60
 t46 := Tryz.underlying110
 a46 := Tryz.isAgg110
 z46 := Tryz.sizeOf110
 v46 := Tryz.zeroValue110
 t51 := Tryz.underlying156
 a51 := Tryz.isAgg156
 z51 := Tryz.sizeOf156
 v51 := Tryz.zeroValue156
 t70 := Tryz.underlying83
 a70 := Tryz.isAgg83
 z70 := Tryz.sizeOf83
 v70 := Tryz.zeroValue83
 t72 := Tryz.underlying85
 a72 := Tryz.isAgg85
 z72 := Tryz.sizeOf85
 v72 := Tryz.zeroValue85
 t75 := Tryz.underlying112
 a75 := Tryz.isAgg112
 z75 := Tryz.sizeOf112
 v75 := Tryz.zeroValue112
 t164 := Tryz.underlying153
 a164 := Tryz.isAgg153
 z164 := Tryz.sizeOf153
 v164 := Tryz.zeroValue153 }
theorem Tryz.Builder_Extra_168 : Builder.Extra Tryz.prog Tryz.lays168_ren := {
 sizeBuilder := by kernel_rfl
 liesBuilder := by kernel_rfl
 t5 := Tryz.underlying5
 a5 := Tryz.isAgg5
 z5 := Tryz.sizeOf5
 v5 := Tryz.zeroValue5
 infoByte := by kernel_rfl
 cellsByte := by kernel_rfl
 sizeByte := by kernel_rfl
 neB5 := by decide }
open Go.RowKit in
theorem Tryz.Builder_WriteRune_k (B b : Nat) (bs : List Value) (r : Int) (hr0 : -2147483648 ≤ r) (hr1 : r ≤ 2147483647) (w : World) (h : Lib.IsBuilderF 85 5 B b bs w) (hlen : bs.length + 4 ≤ 140737488355328) (hBw : B ≤ w.heap.size) :
  Calls Tryz.prog 86 #[.pointer (some ⟨b, 0, none⟩), .int .i32 r] w fun e w' => e = .returned (.tuple #[.int .i64 (Lib.runeCells r).length, .nilIface]) ∧ (Lib.BuilderAtF 85 5 B b (.pointer (some ⟨b, 0, none⟩)) (bs ++ Lib.runeCells r) w' ∧ Below B w w' ∧ Lib.OthersKept 5 (some b) w w') := Any.Builder_WriteRune_k Tryz.lays168 Tryz.Builder_Extra_168 B b bs r hr0 hr1 w h hlen hBw
open Go.RowKit in
theorem Tryz.strings_TrimLeft_laid (s cutset : ByteArray) (w : World) (hcs : cutset.size < 4294967281) (hascii : ∀ (j : Nat) (b : UInt8), cutset.data.toList[j]? = some b → b.toNat < 128) :
  Calls Tryz.prog 259 #[.string s, .string cutset] w fun e w' => e = .returned (.string ⟨(Lib.trimLeftS s.data.toList cutset.data.toList).toArray⟩) ∧ Below w.heap.size w w' := Any.strings_TrimLeft_laid Tryz.lays161 (by kernel_rfl) s cutset w hcs hascii
open Go.RowKit in
theorem Tryz.strings_TrimRight_laid (s cutset : ByteArray) (w : World) (hs : s.size ≤ 9223372036854775807) (hcs : cutset.size < 4294967281) (hascii : ∀ (j : Nat) (b : UInt8), cutset.data.toList[j]? = some b → b.toNat < 128) :
  Calls Tryz.prog 260 #[.string s, .string cutset] w fun e w' => e = .returned (.string ⟨(Lib.trimRightS s.data.toList cutset.data.toList).toArray⟩) ∧ Below w.heap.size w w' := Any.strings_TrimRight_laid Tryz.lays162 (by kernel_rfl) s cutset w hs hcs hascii

end Go.Proofs
namespace Go.Proofs.YtmimeejjaneedaaGreatDoor
section
def val : List Nat → Nat
 | [] => 0
 | x :: r => x + 4294967296 * val r
def Ws (l : List Nat) : Prop := ∀ u ∈ l, u < 4294967296
def nrm : List Nat → List Nat
 | [] => []
 | x :: r => if x = 0 ∧ nrm r = [] then [] else x :: nrm r
theorem Ws.nil : Ws [] := fun u h => by simp at h
theorem Ws.cons {x : Nat} {r : List Nat} (hx : x < 4294967296) (h : Ws r) : Ws (x :: r) := fun u hu => by
 rcases List.mem_cons.1 hu with rfl | hu
 ·exact hx
 ·exact h u hu
theorem Ws.head {x : Nat} {r : List Nat} (h : Ws (x :: r)) : x < 4294967296 := h x (by simp)
theorem Ws.tail {x : Nat} {r : List Nat} (h : Ws (x :: r)) : Ws r := fun u hu => h u (by simp [hu])
theorem Ws.append {l m : List Nat} (h : Ws l) (g : Ws m) : Ws (l ++ m) := fun u hu => by
 rcases List.mem_append.1 hu with hu | hu
 ·exact h u hu
 ·exact g u hu
theorem Ws.take {l : List Nat} (h : Ws l) (n : Nat) : Ws (l.take n) := fun u hu => h u (List.mem_of_mem_take hu)
theorem Ws.drop {l : List Nat} (h : Ws l) (n : Nat) : Ws (l.drop n) := fun u hu => h u (List.mem_of_mem_drop hu)
theorem Ws.get {l : List Nat} (h : Ws l) {k u : Nat} (e : l[k]? = some u) : u < 4294967296 := h u (List.mem_of_getElem? e)
theorem Ws.getD {l : List Nat} (h : Ws l) (k : Nat) : l.getD k 0 < 4294967296 := by
 rw [List.getD_eq_getElem?_getD]
 cases e : l[k]? with
 | none => simp
 | some u => exact h.get e
theorem Zc : nrm [] = [] := rfl
theorem Tm {r : List Nat} (h : nrm r = []) : nrm (0 :: r) = [] := by simp [nrm, h]
theorem Dg {x : Nat} {r : List Nat} (h : ¬ (x = 0 ∧ nrm r = [])) : nrm (x :: r) = x :: nrm r := by rw [nrm, if_neg h]
theorem Aw : ∀ l : List Nat, (nrm l).length ≤ l.length
 | [] => by simp [nrm]
 | x :: r => by
  have := Aw r
  by_cases h : x = 0 ∧ nrm r = []
  ·simp [nrm, h]
  ·rw [Dg h]; simp; exact this
theorem Ws.nrm : ∀ {l : List Nat}, Ws l → Ws (nrm l)
 | [], h => h
 | x :: r, h => by
  by_cases g : x = 0 ∧ Go.Proofs.YtmimeejjaneedaaGreatDoor.nrm r = []
  ·rw [Go.Proofs.YtmimeejjaneedaaGreatDoor.nrm, if_pos g]; exact Ws.nil
  ·rw [Dg g]; exact Ws.cons h.head (Ws.nrm h.tail)
theorem Hl : ∀ l : List Nat, nrm l = l.take (nrm l).length
 | [] => rfl
 | x :: r => by
  by_cases h : x = 0 ∧ nrm r = []
  ·simp [nrm, h]
  ·rw [Dg h]; simp; exact Hl r
theorem Ev : ∀ l : List Nat, nrm (nrm l) = nrm l
 | [] => rfl
 | x :: r => by
  by_cases h : x = 0 ∧ nrm r = []
  ·simp [nrm, h]
  ·rw [Dg h, nrm, Ev r, if_neg h]
theorem Ar : ∀ l : List Nat, val (nrm l) = val l
 | [] => rfl
 | x :: r => by
  have := Ar r
  by_cases h : x = 0 ∧ nrm r = []
  ·rw [h.2] at this
   rw [nrm, if_pos h]
   simp only [val] at this ⊢
   omega
  ·rw [Dg h]; simp only [val, this]
theorem Cb : ∀ {l : List Nat}, val l = 0 → nrm l = []
 | [], _ => rfl
 | x :: r, h => by
  simp only [val] at h
  have h1 : x = 0 := by omega
  have h2 : val r = 0 := by omega
  rw [h1, Tm (Cb h2)]
theorem Y1 : ∀ {l m : List Nat}, Ws l → Ws m → val l = val m → nrm l = nrm m
 | [], m, _, _, h => by rw [Zc, Cb (by rw [← h]; rfl)]
 | x :: r, [], _, _, h => by rw [Zc, Cb (by rw [h]; rfl)]
 | x :: r, y :: s, hl, hm, h => by
  have hx := hl.head
  have hy := hm.head
  simp only [val] at h
  have h1 : x = y := by omega
  have h2 : val r = val s := by omega
  have := Y1 hl.tail hm.tail h2
  simp only [nrm, h1, this]
theorem Nx {l : List Nat} (h : nrm l = []) : val l = 0 := by rw [← Ar, h]; rfl
theorem Gl : ∀ l m : List Nat, val (l ++ m) = val l + 4294967296 ^ l.length * val m
 | [], m => by simp [val]
 | x :: r, m => by
  rw [List.cons_append, val, Gl r m, val, List.length_cons, Nat.pow_succ, Nat.mul_add, Nat.mul_comm (4294967296 ^ r.length) 4294967296, Nat.mul_assoc]
  omega
theorem Gi (n : Nat) : val (List.replicate n 0) = 0 := by
 induction n with
 | zero => rfl
 | succ n ih => rw [List.replicate_succ, val, ih]
theorem Ed : ∀ {l : List Nat}, Ws l → val l < 4294967296 ^ l.length
 | [], _ => by simp [val]
 | x :: r, h => by
  have h1 := h.head
  have h2 := Ed h.tail
  rw [val, List.length_cons, Nat.pow_succ]
  have : 4294967296 * (val r + 1) ≤ 4294967296 ^ r.length * 4294967296 := by rw [Nat.mul_comm]; exact Nat.mul_le_mul_right _ h2
  omega
theorem I0 : ∀ (l : List Nat) (n : Nat), n ≤ l.length → (∀ k, n ≤ k → k < l.length → l.getD k 0 = 0) → (n = 0 ∨ l.getD (n - 1) 0 ≠ 0) → nrm l = l.take n
 | [], n, hn, _, _ => by simp [nrm]
 | x :: r, 0, _, h0, _ => by
  have hx := h0 0 (by omega) (by simp)
  have hr := I0 r 0 (by omega) (fun k hk hl => by have := h0 (k + 1) (by omega) (by simp; omega); simpa using this) (.inl rfl)
  simp only [List.take_zero] at hr ⊢
  have hx' : x = 0 := by simpa using hx
  rw [hx', Tm hr]
 | x :: r, n + 1, hn, h0, hl => by
  have hn' : n ≤ r.length := by simpa using hn
  rcases hl with hl | hl
  ·omega
  ·cases n with
   | zero =>
    have hx : x ≠ 0 := by simpa using hl
    have hr := I0 r 0 (by omega) (fun k hk hl => by have := h0 (k + 1) (by omega) (by simp; omega); simpa using this) (.inl rfl)
    rw [Dg (fun h => hx h.1), hr]
    rfl
   | succ n =>
    have hr := I0 r (n + 1) hn' (fun k hk hl => by have := h0 (k + 1) (by omega) (by simp; omega); simpa using this) (.inr (by simpa using hl))
    have hne : nrm r ≠ [] := by
     rw [hr]
     intro e
     have := congrArg List.length e
     rw [List.length_take, List.length_nil] at this
     have := hn'
     omega
    rw [Dg (fun h => hne h.2), hr]
    rfl
theorem Af5 {l : List Nat} (h : nrm l ≠ []) : l.getD ((nrm l).length - 1) 0 ≠ 0 := by
 induction l with
 | nil => simp [nrm] at h
 | cons x r ih =>
  by_cases g : x = 0 ∧ nrm r = []
  ·rw [nrm, if_pos g] at h; exact absurd rfl h
  ·rw [Dg g]
   by_cases e : nrm r = []
   ·rw [e]; simp; exact fun hx => g ⟨hx, e⟩
   ·have := ih e
    have hp : 0 < (nrm r).length := List.length_pos_iff.2 e
    obtain ⟨k, hk⟩ : ∃ k, (nrm r).length = k + 1 := ⟨(nrm r).length - 1, by omega⟩
    rw [hk] at this
    simp [hk]
    simpa using this
theorem Nv {l : List Nat} (h : nrm l ≠ []) : 4294967296 ^ ((nrm l).length - 1) ≤ val l := by
 induction l with
 | nil => simp [nrm] at h
 | cons x r ih =>
  by_cases g : x = 0 ∧ nrm r = []
  ·rw [nrm, if_pos g] at h; exact absurd rfl h
  ·rw [Dg g, val]
   by_cases e : nrm r = []
   ·rw [e]; simp
    have : x ≠ 0 := fun hx => g ⟨hx, e⟩
    omega
   ·have := ih e
    have hp : 0 < (nrm r).length := List.length_pos_iff.2 e
    obtain ⟨k, hk⟩ : ∃ k, (nrm r).length = k + 1 := ⟨(nrm r).length - 1, by omega⟩
    rw [hk] at this
    simp only [List.length_cons, hk, Nat.add_sub_cancel] at this ⊢
    rw [Nat.pow_succ, Nat.mul_comm]
    have h3 : 4294967296 * 4294967296 ^ k ≤ 4294967296 * val r := Nat.mul_le_mul_left _ this
    omega
theorem Li (l : List Nat) : val l = l.getD 0 0 + 4294967296 * val l.tail := by
 cases l with
 | nil => simp [val]
 | cons x r => simp [val]
theorem Dy (l : List Nat) (j : Nat) : l.tail.getD j 0 = l.getD (j + 1) 0 := by
 cases l with
 | nil => simp
 | cons x r => simp
theorem Ws.tl {l : List Nat} (h : Ws l) : Ws l.tail := fun u hu => h u (List.mem_of_mem_tail hu)
theorem Z4 : ∀ (n : Nat) (l m : List Nat), l.length ≤ n → m.length ≤ n → (∀ j, l.getD j 0 = m.getD j 0) → val l = val m
 | 0, l, m, hl, hm, _ => by
  rw [List.eq_nil_of_length_eq_zero (by omega : l.length = 0), List.eq_nil_of_length_eq_zero (by omega : m.length = 0)]
 | n + 1, l, m, hl, hm, h => by
  rw [Li l, Li m, h 0, Z4 n l.tail m.tail (by rw [List.length_tail]; omega) (by rw [List.length_tail]; omega) (fun j => by rw [Dy, Dy, h])]
theorem Nz {l m : List Nat} (h : ∀ j, l.getD j 0 = m.getD j 0) : val l = val m := Z4 (l.length + m.length) l m (by omega) (by omega) h
theorem Xz : ∀ (i : Nat) (l m : List Nat), Ws l → Ws m → (∀ j, i < j → l.getD j 0 = m.getD j 0) → l.getD i 0 < m.getD i 0 → val l < val m
 | 0, l, m, _, _, h, hlt => by
  rw [Li l, Li m, Nz (l := l.tail) (m := m.tail) (fun j => by rw [Dy, Dy, h (j + 1) (by omega)])]
  omega
 | i + 1, l, m, hl, hm, h, hlt => by
  have ih := Xz i l.tail m.tail hl.tl hm.tl (fun j hj => by rw [Dy, Dy, h (j + 1) (by omega)]) (by rw [Dy, Dy]; exact hlt)
  have h1 : l.getD 0 0 < 4294967296 := by
   rw [List.getD_eq_getElem?_getD]
   cases e : l[0]? with
   | none => simp
   | some u => exact hl.get e
  rw [Li l, Li m]
  omega
theorem Ahc {l m : List Nat} (hl : Ws l) (h : (nrm l).length < (nrm m).length) : val l < val m := by
 have h1 := Ed hl.nrm
 rw [Ar] at h1
 have h2 := Nv (l := m) (fun e => by rw [e] at h; simp at h)
 have h3 : 4294967296 ^ (nrm l).length ≤ 4294967296 ^ ((nrm m).length - 1) := Nat.pow_le_pow_right (by omega) (by omega)
 omega
def O7 : Nat → Nat → List Nat
 | 0, _ => []
 | f + 1, n => if n = 0 then [] else n % 4294967296 :: O7 f (n / 4294967296)
def wds (n : Nat) : List Nat := O7 n n
theorem Aae : ∀ f n : Nat, Ws (O7 f n)
 | 0, _ => Ws.nil
 | f + 1, n => by
  unfold O7
  split
  ·exact Ws.nil
  ·exact Ws.cons (by omega) (Aae f _)
theorem Az (n : Nat) : Ws (wds n) := Aae n n
theorem Nu : ∀ f n : Nat, n ≤ f → val (O7 f n) = n
 | 0, n, h => by simp [O7, val]; omega
 | f + 1, n, h => by
  unfold O7
  split
  ·next h0 => rw [h0]; rfl
  ·next h0 => rw [val, Nu f (n / 4294967296) (by omega)]; omega
theorem Ag (n : Nat) : val (wds n) = n := Nu n n (Nat.le_refl _)
theorem Un : ∀ f n : Nat, n ≤ f → nrm (O7 f n) = O7 f n
 | 0, _, _ => rfl
 | f + 1, n, h => by
  unfold O7
  split
  ·rfl
  ·next h0 =>
   rw [Dg, Un f (n / 4294967296) (by omega)]
   rintro ⟨h1, h2⟩
   have h3 := Nx h2
   rw [Nu f (n / 4294967296) (by omega)] at h3
   omega
theorem H7 (n : Nat) : nrm (wds n) = wds n := Un n n (Nat.le_refl _)
theorem Be {l : List Nat} (h : Ws l) : nrm l = wds (val l) := by
 rw [← H7 (val l)]
 exact Y1 h (Az _) (Ag _).symm
theorem Bd {n k : Nat} (h : n < 4294967296 ^ k) : (wds n).length ≤ k := by
 rcases Nat.lt_or_ge k (wds n).length with h1 | h1
 ·have h2 := Nv (l := wds n) (by rw [H7]; intro e; rw [e] at h1; simp at h1)
  rw [H7, Ag] at h2
  have h3 : 4294967296 ^ k ≤ 4294967296 ^ ((wds n).length - 1) := Nat.pow_le_pow_right (by omega) (by omega)
  omega
 ·exact h1
theorem F7 (n : Nat) : n < 4294967296 ^ (wds n).length := by
 have := Ed (Az n)
 rw [Ag] at this
 exact this
/-! ### part by part -/
theorem Fr (l : List Nat) (y : Nat) : val (l ++ [y]) = val l + 4294967296 ^ l.length * y := by rw [Gl]; simp [val]
theorem Bg (l : List Nat) (k : Nat) (h : k < l.length) : val (l.take (k + 1)) = val (l.take k) + 4294967296 ^ k * l.getD k 0 := by
 have e : l[k] = l.getD k 0 := by rw [List.getD_eq_getElem?_getD, List.getElem?_eq_getElem h]; rfl
 have hk : (l.take k).length = k := by rw [List.length_take]; omega
 rw [List.take_succ_eq_append_getElem h, Fr, hk, e]
theorem Fq (l : List Nat) (i k : Nat) (h : i ≤ l.length) : val (l.take (i + k)) = val (l.take i) + 4294967296 ^ i * val ((l.drop i).take k) := by
 have hi : (l.take i).length = i := by rw [List.length_take]; omega
 rw [List.take_add, Gl, hi]
theorem Cy (l : List Nat) (i j : Nat) : (l.drop i).getD j 0 = l.getD (i + j) 0 := by
 rw [List.getD_eq_getElem?_getD, List.getD_eq_getElem?_getD, List.getElem?_drop]
theorem Kx {l : List Nat} {k j : Nat} (h : j < k) : (l.take k).getD j 0 = l.getD j 0 := by
 rw [List.getD_eq_getElem?_getD, List.getD_eq_getElem?_getD, List.getElem?_take, if_pos h]
theorem Bp {l : List Nat} {k y : Nat} (h : k < l.length) : (l.set k y).getD k 0 = y := by
 rw [List.getD_eq_getElem?_getD, List.getElem?_set_self h]; rfl
theorem Ao {l : List Nat} {k j y : Nat} (h : k ≠ j) : (l.set k y).getD j 0 = l.getD j 0 := by
 rw [List.getD_eq_getElem?_getD, List.getD_eq_getElem?_getD, List.getElem?_set_ne h]
theorem Ws.set {l : List Nat} (h : Ws l) {k y : Nat} (hy : y < 4294967296) : Ws (l.set k y) := fun u hu => by
 rcases List.mem_or_eq_of_mem_set hu with h1 | h1
 ·exact h u h1
 ·rw [h1]; exact hy
theorem Co {l m : List Nat} (k : Nat) (hl : k ≤ l.length) (hm : k ≤ m.length) (h : ∀ j, j < k → l.getD j 0 = m.getD j 0) : l.take k = m.take k := by
 apply List.ext_getElem?
 intro j
 rw [List.getElem?_take, List.getElem?_take]
 split
 ·next hj =>
  have := h j hj
  rw [List.getElem?_eq_getElem (by omega), List.getElem?_eq_getElem (by omega)]
  rw [List.getD_eq_getElem?_getD, List.getD_eq_getElem?_getD, List.getElem?_eq_getElem (by omega), List.getElem?_eq_getElem (by omega)] at this
  exact congrArg some this
 ·rfl
theorem Ep {l m : List Nat} (i k : Nat) (hl : i + k ≤ l.length) (hm : i + k ≤ m.length) (h : ∀ j, i ≤ j → j < i + k → l.getD j 0 = m.getD j 0) : (l.drop i).take k = (m.drop i).take k :=
 Co k (by rw [List.length_drop]; omega) (by rw [List.length_drop]; omega) (fun j hj => by rw [Cy, Cy]; exact h _ (by omega) (by omega))
theorem Ax (l : List Nat) (i k : Nat) (h : i + k < l.length) : val ((l.drop i).take (k + 1)) = val ((l.drop i).take k) + 4294967296 ^ k * l.getD (i + k) 0 := by
 rw [Bg (l.drop i) k (by rw [List.length_drop]; omega), Cy]
theorem Sx {l : List Nat} (h : ∀ j, l.getD j 0 = 0) : val l = 0 := by
 have := Nz (l := l) (m := []) (fun j => by rw [h]; simp)
 rw [this]; rfl
theorem M1 (l : List Nat) (k : Nat) (hz : ∀ j, k ≤ j → l.getD j 0 = 0) : val l = val (l.take k) := by
 refine Nz (fun j => ?_)
 by_cases h : j < k
 ·rw [Kx h]
 ·rw [hz j (by omega)]
  rw [List.getD_eq_getElem?_getD, List.getElem?_eq_none (by rw [List.length_take]; omega)]; rfl
theorem Fu (P t v w : Nat) (h : v + P * t = w) : (v + P * (t % 4294967296)) + (P * 4294967296) * (t / 4294967296) = w := by
 have := Nat.mod_add_div t 4294967296
 grind
theorem Aq (l : List Nat) (k : Nat) : val (l.take (k + 1)) = val (l.take k) + 4294967296 ^ k * l.getD k 0 := by
 rcases Nat.lt_or_ge k l.length with h | h
 ·exact Bg l k h
 ·rw [List.take_of_length_le (by omega), List.take_of_length_le h, List.getD_eq_getElem?_getD, List.getElem?_eq_none h]; simp
theorem Bk {l : List Nat} {k : Nat} (h : l.length ≤ k) : val (l.take k) = val l := by rw [List.take_of_length_le h]
structure SumT (a b : List Nat) (k : Nat) (S : List Nat) (c : Nat) : Prop where
 ws : Ws S
 sum : val (S.take k) + 4294967296 ^ k * c = val (a.take k) + val (b.take k)
 low : c ≤ 1
theorem SumT.start (a b S : List Nat) (h : Ws S) : SumT a b 0 S 0 := ⟨h, by simp [val], by omega⟩
def Xm (a b : List Nat) (k c : Nat) : Nat := a.getD k 0 + b.getD k 0 + c
theorem Y2 {a b : List Nat} {k c : Nat} (ha : Ws a) (hb : Ws b) (hc : c ≤ 1) : Xm a b k c < 8589934592 := by
 have h1 := ha.getD k
 have h2 := hb.getD k
 unfold Xm
 omega
theorem SumT.next {a b : List Nat} {k : Nat} {S T : List Nat} {c : Nat} (h : SumT a b k S c) (ha : Ws a) (hb : Ws b) (hT : Ws T) (e1 : T.take k = S.take k) (e2 : T.getD k 0 = Xm a b k c % 4294967296) :
  SumT a b (k + 1) T (Xm a b k c / 4294967296) := by
 have hlt := Y2 (k := k) ha hb h.low
 refine ⟨hT, ?_, by omega⟩
 have hs := h.sum
 rw [Aq T k, e1, e2, Aq a k, Aq b k]
 have e := Fu (4294967296 ^ k) (Xm a b k c) (val (S.take k)) (val (a.take k) + 4294967296 ^ k * a.getD k 0 + (val (b.take k) + 4294967296 ^ k * b.getD k 0)) (by unfold Xm; grind)
 rw [Nat.pow_succ]
 exact e
theorem Qb (n : Nat) : 2 * 4294967296 ^ n ≤ 4294967296 ^ (n + 1) := by
 rw [Nat.pow_succ, Nat.mul_comm]
 exact Nat.mul_le_mul_left _ (by omega)
theorem SumT.end_ {a b : List Nat} {k : Nat} {S : List Nat} {c : Nat} (h : SumT a b k S c) (hn : a.length ≤ k) (hm : b.length ≤ k) (hS : S.length = k) : Ws (S ++ [c]) ∧ val (S ++ [c]) = val a + val b := by
 have hs := h.sum
 rw [Bk (by omega), Bk hn, Bk hm] at hs
 refine ⟨h.ws.append (Ws.cons (by have := h.low; omega) Ws.nil), ?_⟩
 rw [Fr, hS]
 exact hs
theorem Tx {P va vb vS c : Nat} (h1 : vS < P) (h2 : vb ≤ va) (hs : vS + vb = va + P * c) : vS = va - vb := by
 rcases Nat.eq_zero_or_pos c with h0 | h0
 ·rw [h0, Nat.mul_zero] at hs; omega
 ·have h6 : P * 1 ≤ P * c := Nat.mul_le_mul_left _ h0
  omega
structure SubT (a b : List Nat) (k : Nat) (S : List Nat) (c : Nat) : Prop where
 ws : Ws S
 sum : val (S.take k) + val (b.take k) = val (a.take k) + 4294967296 ^ k * c
 low : c ≤ 1
theorem SubT.start (a b S : List Nat) (h : Ws S) : SubT a b 0 S 0 := ⟨h, by simp [val], by omega⟩
def Aav (a b : List Nat) (k c : Nat) : Nat := (a.getD k 0 + 4294967296 * 2 - b.getD k 0 - c) % 4294967296
def Acf (a b : List Nat) (k c : Nat) : Nat := if a.getD k 0 < b.getD k 0 + c then 1 else 0
theorem SubT.next {a b : List Nat} {k : Nat} {S T : List Nat} {c : Nat} (h : SubT a b k S c) (ha : Ws a) (hb : Ws b) (hT : Ws T) (e1 : T.take k = S.take k) (e2 : T.getD k 0 = Aav a b k c) :
  SubT a b (k + 1) T (Acf a b k c) := by
 have h1 := ha.getD k
 have h2 := hb.getD k
 have h3 := h.low
 have hs := h.sum
 refine ⟨hT, ?_, by unfold Acf; split <;> omega⟩
 rw [Aq T k, e1, e2, Aq a k, Aq b k]
 have key : Aav a b k c + b.getD k 0 + c = a.getD k 0 + 4294967296 * Acf a b k c := by
  unfold Aav Acf
  split <;> omega
 rw [Nat.pow_succ]
 have : 4294967296 ^ k * (Aav a b k c + b.getD k 0 + c) = 4294967296 ^ k * (a.getD k 0 + 4294967296 * Acf a b k c) := by rw [key]
 grind
theorem SubT.whole {a b : List Nat} {n : Nat} {S : List Nat} {c : Nat} (h : SubT a b n S c) (hn : a.length ≤ n) (hm : b.length ≤ n) (hS : S.length = n) (hle : val b ≤ val a) : val S = val a - val b := by
 have hs := h.sum
 rw [Bk (by omega), Bk hn, Bk hm] at hs
 have h1 := Ed h.ws
 rw [hS] at h1
 exact Tx h1 hle hs
theorem Di {s : Nat} (hs : s ≤ 32) : 2 ^ s * 2 ^ (32 - s) = 4294967296 := by
 rw [← Nat.pow_add, show s + (32 - s) = 32 by omega]
def Er (a : List Nat) (s k : Nat) : Nat := if k = 0 then 0 else a.getD (k - 1) 0 / 2 ^ (32 - s)
def Iy (a : List Nat) (s k : Nat) : Nat := a.getD k 0 * 2 ^ s % 4294967296 + Er a s k
theorem Lq (x s : Nat) (hs : s ≤ 32) : x * 2 ^ s / 4294967296 = x / 2 ^ (32 - s) := by
 rw [← Di hs, Nat.mul_comm x, Nat.mul_div_mul_left _ _ (Nat.two_pow_pos s)]
theorem E4 (x s : Nat) (hs : s ≤ 32) : x * 2 ^ s % 4294967296 = 2 ^ s * (x % 2 ^ (32 - s)) := by
 rw [← Di hs, Nat.mul_comm x, Nat.mul_mod_mul_left]
theorem I9 (y s : Nat) (hs : s ≤ 32) (hy : y < 4294967296) : y / 2 ^ (32 - s) < 2 ^ s := by
 rw [Nat.div_lt_iff_lt_mul (Nat.two_pow_pos _), Di hs]; exact hy
theorem Ady (x y s : Nat) (hs : s ≤ 32) (hy : y < 4294967296) : (x * 2 ^ s % 4294967296) ||| (y / 2 ^ (32 - s)) = x * 2 ^ s % 4294967296 + y / 2 ^ (32 - s) := by
 rw [E4 x s hs, Nat.two_pow_add_eq_or_of_lt (I9 y s hs hy)]
theorem St (x y s : Nat) (hs : s ≤ 32) (hy : y < 4294967296) : x * 2 ^ s % 4294967296 + y / 2 ^ (32 - s) < 4294967296 := by
 have h1 := I9 y s hs hy
 have h2 : x % 2 ^ (32 - s) < 2 ^ (32 - s) := Nat.mod_lt _ (Nat.two_pow_pos _)
 rw [E4 x s hs]
 have h3 : 2 ^ s * (x % 2 ^ (32 - s) + 1) ≤ 2 ^ s * 2 ^ (32 - s) := Nat.mul_le_mul_left _ h2
 rw [Di hs, Nat.mul_add, Nat.mul_one] at h3
 omega
theorem Zg {a : List Nat} (ha : Ws a) (s k : Nat) (hs : s ≤ 32) : Iy a s k < 4294967296 := by
 unfold Iy Er
 split
 ·omega
 ·exact St _ _ s hs (ha.getD _)
structure ShlP (R : List Nat) (o : Nat) (a : List Nat) (s k : Nat) (S : List Nat) : Prop where
 len : S.length = R.length
 ws : Ws S
 far : ∀ j, j < o ∨ o + k ≤ j → S.getD j 0 = R.getD j 0
 sum : val ((S.drop o).take k) + 4294967296 ^ k * Er a s k = 2 ^ s * val (a.take k)
theorem ShlP.start {R : List Nat} (o : Nat) (a : List Nat) (s : Nat) (hR : Ws R) : ShlP R o a s 0 R := ⟨rfl, hR, fun _ _ => rfl, by simp [val, Er]⟩
theorem ShlP.next {R : List Nat} {o : Nat} {a : List Nat} {s k : Nat} {S : List Nat} (h : ShlP R o a s k S) (ha : Ws a) (hs : s ≤ 32) (ho : o + k < R.length) :
  ShlP R o a s (k + 1) (S.set (o + k) (Iy a s k)) := by
 obtain ⟨h1, h2, h3, h4⟩ := h
 refine ⟨by rw [List.length_set]; exact h1, h2.set (Zg ha s k hs), fun j hj => by rw [Ao (by omega), h3 j (by omega)], ?_⟩
 rw [Ax _ o k (by rw [List.length_set]; omega), Aq a k, Bp (by omega)]
 rw [Ep (l := S.set (o + k) (Iy a s k)) (m := S) o k (by rw [List.length_set]; omega) (by omega) (fun j _ hj => Ao (by omega))]
 have e1 : Er a s (k + 1) = a.getD k 0 * 2 ^ s / 4294967296 := by
  unfold Er; rw [if_neg (by omega), Nat.add_sub_cancel, Lq _ s hs]
 have e := Fu (4294967296 ^ k) (a.getD k 0 * 2 ^ s) (val ((S.drop o).take k) + 4294967296 ^ k * Er a s k) (2 ^ s * (val (a.take k) + 4294967296 ^ k * a.getD k 0)) (by rw [h4]; grind)
 rw [e1, Nat.pow_succ]
 unfold Iy
 grind
theorem ShlP.whole {R : List Nat} {o : Nat} {a : List Nat} {s n : Nat} {S : List Nat} (h : ShlP R o a s n S) (hn : a.length < n) : val ((S.drop o).take n) = 2 ^ s * val a := by
 have h4 := h.sum
 have e : Er a s n = 0 := by
  unfold Er
  split
  ·rfl
  ·rw [List.getD_eq_getElem?_getD, List.getElem?_eq_none (by omega)]; simp
 rw [e, Nat.mul_zero, Nat.add_zero, Bk (l := a) (by omega)] at h4
 exact h4
def Gk (a : List Nat) (s k : Nat) : Nat := a.getD (k + 1) 0 * 2 ^ (32 - s) % 4294967296 + a.getD k 0 / 2 ^ s
theorem Zf {a : List Nat} (ha : Ws a) (s k : Nat) (hs : s ≤ 32) : Gk a s k < 4294967296 := by
 unfold Gk
 have := St (a.getD (k + 1) 0) (a.getD k 0) (32 - s) (by omega) (ha.getD k)
 rw [show 32 - (32 - s) = s by omega] at this
 exact this
structure ShrP (R : List Nat) (o : Nat) (a : List Nat) (s k : Nat) (S : List Nat) : Prop where
 len : S.length = R.length
 ws : Ws S
 far : ∀ j, j < o ∨ o + k ≤ j → S.getD j 0 = R.getD j 0
 sum : 2 ^ s * val ((S.drop o).take k) + a.getD 0 0 % 2 ^ s = val (a.take k) + 4294967296 ^ k * (a.getD k 0 % 2 ^ s)
theorem ShrP.start {R : List Nat} (o : Nat) (a : List Nat) (s : Nat) (hR : Ws R) : ShrP R o a s 0 R := ⟨rfl, hR, fun _ _ => rfl, by simp [val]⟩
theorem N6 (a : List Nat) (s k : Nat) (hs : s ≤ 32) : 2 ^ s * Gk a s k + a.getD k 0 % 2 ^ s = a.getD k 0 + 4294967296 * (a.getD (k + 1) 0 % 2 ^ s) := by
 have h1 := Nat.div_add_mod (a.getD k 0) (2 ^ s)
 have h2 := E4 (a.getD (k + 1) 0) (32 - s) (by omega)
 rw [show 32 - (32 - s) = s by omega] at h2
 have h3 := Di hs
 unfold Gk
 rw [h2, ← h3]
 generalize 2 ^ s = P at *
 generalize 2 ^ (32 - s) = Q at *
 generalize a.getD (k + 1) 0 % P = z at *
 have e : P * (Q * z + a.getD k 0 / P) = P * Q * z + P * (a.getD k 0 / P) := by rw [Nat.mul_add, Nat.mul_assoc]
 omega
theorem ShrP.next {R : List Nat} {o : Nat} {a : List Nat} {s k : Nat} {S : List Nat} (h : ShrP R o a s k S) (ha : Ws a) (hs : s ≤ 32) (ho : o + k < R.length) :
  ShrP R o a s (k + 1) (S.set (o + k) (Gk a s k)) := by
 obtain ⟨h1, h2, h3, h4⟩ := h
 refine ⟨by rw [List.length_set]; exact h1, h2.set (Zf ha s k hs), fun j hj => by rw [Ao (by omega), h3 j (by omega)], ?_⟩
 rw [Ax _ o k (by rw [List.length_set]; omega), Aq a k, Bp (by omega)]
 rw [Ep (l := S.set (o + k) (Gk a s k)) (m := S) o k (by rw [List.length_set]; omega) (by omega) (fun j _ hj => Ao (by omega))]
 have e := N6 a s k hs
 rw [Nat.pow_succ]
 generalize 4294967296 ^ k = K at *
 generalize Gk a s k = W at *
 have e2 : K * (2 ^ s * W + a.getD k 0 % 2 ^ s) = K * (a.getD k 0 + 4294967296 * (a.getD (k + 1) 0 % 2 ^ s)) := by rw [e]
 grind
theorem ShrP.whole {R : List Nat} {o : Nat} {a : List Nat} {s n : Nat} {S : List Nat} (h : ShrP R o a s n S) (hn : a.length ≤ n) : val ((S.drop o).take n) = val a / 2 ^ s := by
 have h4 := h.sum
 have e : a.getD n 0 = 0 := by rw [List.getD_eq_getElem?_getD, List.getElem?_eq_none hn]; rfl
 rw [e, Nat.zero_mod, Nat.mul_zero, Nat.add_zero, Bk (l := a) hn] at h4
 rw [← h4, Nat.add_comm, Nat.add_mul_div_left _ _ (Nat.two_pow_pos s), Nat.div_eq_of_lt (Nat.mod_lt _ (Nat.two_pow_pos s)), Nat.zero_add]

open Go.RowKit
def RW (w : World) (B : Nat) (A : Option Addr) (l : List Nat) : Prop :=
 Ws l ∧ (0 < l.length → ∃ b off, A = some ⟨b, off, none⟩ ∧ b < B ∧ ∀ k u : Nat, l[k]? = some u → w.cell? ⟨b, off + k, none⟩ = some (.int .u32 (u : Int)))
def Sl (w : World) (B : Nat) (v : Value) (l : List Nat) : Prop := ∃ A c, v = .slice A l.length c ∧ l.length ≤ c ∧ RW w B A l
theorem RW.nil (w : World) (B : Nat) (A : Option Addr) : RW w B A [] := ⟨Ws.nil, fun h => by simp at h⟩
theorem RW.keep {w w' : World} {B : Nat} {A : Option Addr} {l : List Nat} (h : RW w B A l) (hk : ∀ p : Addr, p.block < B → w'.cell? p = w.cell? p) : RW w' B A l := ⟨h.1, fun hl => by
 obtain ⟨b, off, e, hb, hc⟩ := h.2 hl
 exact ⟨b, off, e, hb, fun k u hu => (hk ⟨b, off + k, none⟩ hb).trans (hc k u hu)⟩⟩
theorem RW.more {w : World} {B C : Nat} {A : Option Addr} {l : List Nat} (h : RW w B A l) (hB : B ≤ C) : RW w C A l := ⟨h.1, fun hl => by
 obtain ⟨b, off, e, hb, hc⟩ := h.2 hl
 exact ⟨b, off, e, by omega, hc⟩⟩
theorem RW.below {w w' : World} {B : Nat} {A : Option Addr} {l : List Nat} (h : RW w B A l) (hb : Below B w w') : RW w' B A l := h.keep fun _ hp => hb.cell hp
theorem RW.drewN {w : World} {B : Nat} {A : Option Addr} {l : List Nat} (h : RW w B A l) (n : Nat) : RW (w.drewN n) B A l := h
theorem RW.take {w : World} {B : Nat} {A : Option Addr} {l : List Nat} (h : RW w B A l) (n : Nat) : RW w B A (l.take n) := ⟨h.1.take n, fun hl => by
 obtain ⟨b, off, e, hb, hc⟩ := h.2 (by rw [List.length_take] at hl; omega)
 refine ⟨b, off, e, hb, fun k u hu => hc k u ?_⟩
 rw [List.getElem?_take] at hu
 split at hu
 ·exact hu
 ·cases hu⟩
theorem RW.step {w w' : World} {A : Option Addr} {l : List Nat} (h : RW w w.heap.size A l) (hb : Below w.heap.size w w') : RW w' w'.heap.size A l := (h.below hb).more hb.size
theorem getD_some {l : List Nat} {k : Nat} (h : k < l.length) : l[k]? = some (l.getD k 0) := by
 rw [List.getD_eq_getElem?_getD, List.getElem?_eq_getElem h]; rfl
theorem Id {l : List Nat} {k : Nat} (h : l.length ≤ k) : l.getD k 0 = 0 := by
 rw [List.getD_eq_getElem?_getD, List.getElem?_eq_none h]; rfl
theorem Sl.nil (w : World) (B c : Nat) : Sl w B (.slice none 0 c) [] := ⟨none, c, rfl, Nat.zero_le _, RW.nil _ _ _⟩
theorem Sl.mk {w : World} {B n c : Nat} {A : Option Addr} {l : List Nat} (hn : l.length = n) (hc : n ≤ c) (h : RW w B A l) : Sl w B (.slice A n c) l := ⟨A, c, by rw [hn], by omega, h⟩
theorem Ac {B : Nat} {a w : World} (h : Below B a w) (n : Nat) : Below B a (w.drewN n) := ⟨h.os, h.tape, h.output, h.size, h.block⟩
theorem Aa {W w w' : World} (h : Below W.heap.size W w) (h2 : Below w.heap.size w w') : Below W.heap.size W w' := h.trans (h2.mono h.size)
theorem Fs {a b : Bool} (h : a = b) : Ending.returned (.bool a) = .returned (.bool b) := by rw [h]
theorem J9 {a b : Int} (h : a = b) : Ending.returned (.int .i64 a) = .returned (.int .i64 b) := by rw [h]

open Go.RowKit
theorem Aep (A : Option Addr) (c : Nat) (w : World) : Cq 336 #[.slice A 0 c] (.slice A 0 0) w := by
 go_enter Tryz.func336, Tryz.ntmps336
 go_wp2
 go_loop [3] (fun i => i = .int .i64 0) (fun _ => 0)
 case atStart => exact rfl
 case round =>
  obtain rfl := hrel
  go_wp2
  go_ret
  exact ⟨rfl, rfl⟩
theorem Aex (b off n c : Nat) (l : List Nat) (w : World) (hn : l.length = n) (hc : n ≤ c) (hm : n ≤ 35184372088832) (h : ∀ k u : Nat, l[k]? = some u → w.cell? ⟨b, off + k, none⟩ = some (.int .u32 (u : Int))) :
  Cq 336 #[.slice (some ⟨b, off, none⟩) n c] (.slice (some ⟨b, off, none⟩) (nrm l).length (nrm l).length) w := by
 have HN := Lh hn
 have HC := Lh h
 have hm1 : (n : Int) ≤ 35184372088832 := by omega
 have hc1 : (n : Int) ≤ (c : Int) := by omega
 clear hn h
 go_enter Tryz.func336, Tryz.ntmps336
 go_wp2
 go_loop [3] (fun i => ∃ k : Nat, i = .int .i64 k ∧ k ≤ n ∧ Hid (∀ j, k ≤ j → j < l.length → l.getD j 0 = 0)) (fun i => (intOf i).toNat)
 case atStart => exact ⟨n, rfl, Nat.le_refl _, Lh (fun j h1 h2 => by have := HN.out; omega)⟩
 case round =>
  obtain ⟨k, rfl, hk, HZ⟩ := hrel
  by_cases h0 : k = 0
  ·have HE := Lh (show (nrm l).length = k by rw [I0 l k (by have := HN.out; omega) HZ.out (.inl h0), List.length_take]; omega)
   subst h0
   go_wp2
   go_ret
   rw [HE.out]
   exact ⟨rfl, rfl⟩
  ·obtain ⟨j, rfl⟩ : ∃ j, k = j + 1 := ⟨k - 1, by omega⟩
   have hj : j < l.length := by have := HN.out; omega
   have hcell := HC.out j _ (getD_some hj)
   have h1 : (j : Int) < (n : Int) := by omega
   by_cases hz : l.getD j 0 = 0
   ·rw [hz] at hcell
    have HZ2 := Lh (show ∀ i, j ≤ i → i < l.length → l.getD i 0 = 0 from fun i h2 h3 => by
     by_cases h4 : i = j
     ·rw [h4]; exact hz
     ·exact HZ.out i (by omega) h3)
    clear hz hj
    go_wp2
    go_round
    case rel => exact ⟨j, by go_num, by omega, HZ2⟩
    case measure => simp [intOf]
   ·have HE := Lh (show (nrm l).length = j + 1 by rw [I0 l (j + 1) (by omega) HZ.out (.inr (by simpa using hz)), List.length_take]; omega)
    obtain ⟨u, hu⟩ : ∃ u, l.getD j 0 = u := ⟨_, rfl⟩
    rw [hu] at hcell hz
    have hz' : ((u : Int) == 0) = false := by simp; omega
    have hjc : (j : Int) + 1 ≤ (c : Int) := by omega
    clear hu hj
    go_wp2
    go_ret
    rw [HE.out]
    exact ⟨rfl, rfl⟩
theorem Av (A : Option Addr) (n c : Nat) (l : List Nat) (B : Nat) (w : World) (hn : l.length = n) (hc : n ≤ c) (hm : n ≤ 35184372088832) (h : RW w B A l) :
  Cq 336 #[.slice A n c] (.slice A (nrm l).length (nrm l).length) w := by
 rcases Nat.eq_zero_or_pos n with h0 | h0
 ·subst h0
  obtain rfl : l = [] := List.eq_nil_of_length_eq_zero hn
  exact Aep A c w
 ·obtain ⟨b, off, rfl, _, hcell⟩ := h.2 (by omega)
  exact Aex b off n c l w hn hc hm hcell
theorem RW.nrm {w : World} {B : Nat} {A : Option Addr} {l : List Nat} (h : RW w B A l) : RW w B A (nrm l) := by rw [Hl]; exact h.take _

open Go.RowKit
theorem Ei : (Tryz.prog.info? 156).map (fun i => (i.zero, i.size, i.bytes)) = some (some (.int .u32 0), 1, 4) := by kernel_rfl
abbrev OwnW (B : Nat) (l : List Nat) (v : Value) (w : World) : Prop := w.ownsRow B 156 1 v l.length (l.map fun u => Value.int .u32 (u : Nat))
theorem OwnW.nil (B : Nat) (w : World) : OwnW B [] (.slice none 0 0) w := World.ownsRow_nil _ _ _ _
theorem OwnW.sl {B : Nat} {l : List Nat} {v : Value} {w : World} (h : OwnW B l v w) (hw : Ws l) : Sl w w.heap.size v l := by
 rcases h.2 with ⟨rfl, h0⟩ | ⟨g, cap, cur, rfl, hB, hg, hcap, hmax, hcur, htk⟩
 ·obtain rfl : l = [] := List.eq_nil_of_length_eq_zero h0
  exact Sl.nil _ _ _
 ·refine ⟨_, cap, rfl, hcap, hw, fun hl => ⟨g, 0, rfl, (World.ownsRow.lt h g rfl).2, fun k u hu => ?_⟩⟩
  have := h.cells (g := g) rfl k (.int .u32 (u : Nat)) (by rw [List.getElem?_map, hu]; rfl)
  by_cases hz : k = 0
  ·subst hz; simpa [Addr.add] using this
  ·simpa [Addr.add, hz] using this
theorem Lz {P : Program} {w : World} (base : Nat) (t ty e : TypeId) (i : TypeInfo) (ht : P.underlying t = some (.slice e)) (hi : P.info? e = some i)
  (v : Value) (n : Nat) (xs : List Value) (size : Nat) (hown : w.ownsRow base e size v n xs) (c : Nat) : (Builtin.append_ #[t, t] ty #[v, .slice none 0 c]).run P w = .ok v w := by
 rcases hown.2 with ⟨rfl, rfl⟩ | ⟨g, cap, cur, rfl, _, _, hnc, _⟩
 ·simp [Builtin.append_, run_underlying ht, sizeOf, typeInfo, hi, Builtin.lenOf, Builtin.firstCells]
 ·simp [Builtin.append_, run_underlying ht, sizeOf, typeInfo, hi, Builtin.lenOf, Builtin.firstCells, hnc, storeCells]
theorem Nn {P : Program} {w : World} {ops : Array Oper} {rest : List Oper} {o : Oper} {a : Act} {Q : Exit → Act → World → Prop} (hgd : o.guard = none) (s x : Operand) (t : TypeId)
  (ho : o.op = .call { callee := .builtin .append, args := #[s, x], argTypes := #[t, t] })
  (base : Nat) (e : TypeId) (i : TypeInfo) (size : Nat) (ht : P.underlying t = some (.slice e)) (hi : P.info? e = some i)
  (v : Value) (n : Nat) (xs : List Value) (c : Nat) (hs : a.eval s = v) (hown : w.ownsRow base e size v n xs) (hx : a.eval x = .slice none 0 c)
  (h : wpList P ops Q rest (a.put o.dst v) w) : wpList P ops Q (o :: rest) a w := by
 refine wpList_plain hgd fun K hK => ?_
 have hrun := Lz (P := P) (w := w) base t o.type e i ht hi v n xs size hown c
 unfold Oper.wp
 simp [execOp, ho, resolve, invoke, builtin, hs, hx, hrun, Result.andThen]
 exact hK _ _ h
theorem Se {w : World} {b off : Nat} {l : List Nat} (h : ∀ k u : Nat, l[k]? = some u → w.cell? ⟨b, off + k, none⟩ = some (.int .u32 (u : Int))) :
  ∀ (j : Nat) u, (l.map fun u => Value.int .u32 (u : Nat))[j]? = some u → w.cell? ((⟨b, off, none⟩ : Addr).add j) = some u := by
 intro j u hu
 rw [List.getElem?_map] at hu
 cases e : l[j]? with
 | none => rw [e] at hu; cases hu
 | some x =>
  rw [e] at hu
  simp only [Option.map_some, Option.some.injEq] at hu
  subst hu
  have := h j x e
  by_cases hz : j = 0
  ·subst hz; simpa [Addr.add] using this
  ·simpa [Addr.add, hz] using this
theorem So (l : List Nat) : ∀ u ∈ (l.map fun u => Value.int .u32 (u : Nat)), u.oneCell' = true := by
 intro u hu
 simp only [List.mem_map] at hu
 obtain ⟨x, _, rfl⟩ := hu
 rfl
def OwnPost (l : List Nat) (w : World) (e : Ending) (w' : World) : Prop := ∃ v, e = .returned v ∧ OwnW w.heap.size l v w' ∧ Below w.heap.size w w'
theorem OwnW.of_block {B g : Nat} {l : List Nat} {w : World} (hB : B ≤ g) (hl : l.length ≤ maxLen) (h : w.heap[g]? = some (.cells (l.map fun u => Value.int .u32 (u : Nat)).toArray 156 (0, 0))) :
  OwnW B l (.slice (some ⟨g, 0, none⟩) l.length l.length) w :=
 ⟨by simp, .inr ⟨g, l.length, _, rfl, hB, h, Nat.le_refl _, hl, by simp, by rw [List.toList_toArray]; exact List.take_of_length_le (by simp)⟩⟩
theorem S8 (A : Option Addr) (n c : Nat) (l : List Nat) (w : World) (hn : l.length = n) (hc : n ≤ c) (hm : n ≤ 35184372088832) (h : RW w w.heap.size A l) :
  Cp 358 #[.slice A n c] w (OwnPost (nrm l) w) := by
 have c1 := fun W (h : RW W w.heap.size A l) => Av A n c l w.heap.size W hn hc hm h
 obtain ⟨m, hm0⟩ : ∃ m, (nrm l).length = m := ⟨_, rfl⟩
 have hle : m ≤ n := by rw [← hm0, ← hn]; exact Aw l
 rw [hm0] at c1
 have hmk := run_make_row' (P := Tryz.prog) 180 156 (.int .u32 0) 4 Tryz.underlying180 Ei rfl .i64 .i64 m (by omega) (by omega) w
 have hmade := World.rowIs_made w (.int .u32 0) m 156
 have HC := Lh (h.nrm)
 have HM := Lh hm0
 have hm1 : (m : Int) ≤ 35184372088832 := by omega
 have HR := Lh h
 have HX := Lh hmade
 clear h hn hc hm hm0 hle hmade
 go_enter Tryz.func358, Tryz.ntmps358
 go_wp2_with (first | (go_at_call 336; refine (c1 _ HR.out).mono ?_; rintro e w' ⟨rfl, rfl⟩) | (with_reducible refine wpList_copy_splice rfl (.tmp 9) (.tmp 10) 180 180 rfl 156 Tryz.underlying180 (by kernel_rfl) (some ⟨w.heap.size, 0, none⟩) A m m m m ?e1 ?e2 w.heap.size 0 (List.replicate m (.int .u32 0)) 156 ?k1 ((nrm l).map fun u => Value.int .u32 (u : Nat)) ?k2 ?k3 ?k4 ?k5 w.heap.size w ?k6 (Nat.le_refl _) ?_))
 case e1 => rfl
 case e2 => rfl
 case k1 =>
  have e := heap_alloc_new w (.cells (madeCells #[Value.int .u32 0] m) 156)
  rw [show madeCells #[Value.int .u32 0] m = (List.replicate m (Value.int .u32 0)).toArray from Array.toList_inj.1 (by rw [toList_madeCells_one, List.toList_toArray])] at e ⊢
  exact e
 case k2 => rw [List.length_map, HM.out]; exact (Nat.min_self _).symm
 case k3 =>
  intro hp
  have hp' : 0 < (nrm l).length := by simpa using hp
  obtain ⟨b, off, e, hb, hc⟩ := HC.out.2 hp'
  refine ⟨⟨b, off, none⟩, e, fun j u hu => ?_⟩
  rw [World.cell?_alloc_lt]
  ·exact Se hc j _ (by rw [List.getElem?_map, hu]; rfl)
  ·unfold Addr.add; split <;> exact hb
 case k4 => rw [List.length_map, HM.out, List.length_replicate]; omega
 case k5 => exact So _
 case k6 => exact (Below.refl _ _).alloc (Nat.le_refl _) _
 intro w2 HG2 hB2
 go_wp2
 go_ret
 refine ⟨_, rfl, ?_⟩
 have hG := HG2.out
 have e : splice (List.replicate m (Value.int .u32 0)) 0 ((nrm l).map fun u => Value.int .u32 (u : Nat)) = (nrm l).map fun u => Value.int .u32 (u : Nat) := by
  unfold splice
  rw [List.take_zero, List.nil_append, List.drop_of_length_le (by rw [List.length_replicate, List.length_map, HM.out]; omega), List.append_nil]
 rw [e] at hG
 have := OwnW.of_block (B := w.heap.size) (Nat.le_refl _) (by rw [HM.out]; unfold maxLen; omega) hG
 rw [HM.out] at this
 exact ⟨this, hB2⟩
theorem X9 (A : Option Addr) (c : Nat) (w : World) : Cp 310 #[.slice A 0 c] w (OwnPost [] w) := by
 obtain ⟨i0, hi, hz0, hz1, hz2⟩ := info_parts Ei
 rcases A with _ | ad
 ·go_enter Tryz.func310, Tryz.ntmps310
  go_wp2
  go_loop [3] (fun i => i = .int .i64 0) (fun _ => 0)
  case atStart => exact rfl
  case round =>
   obtain rfl := hrel
   go_wp2_with (at_builtin; refine Nn rfl _ _ 180 rfl w.heap.size 156 i0 1 Tryz.underlying180 hi _ 0 [] c rfl (World.ownsRow_nil _ _ _ _) rfl ?_)
   go_ret
   exact ⟨_, rfl, OwnW.nil _ _, Below.refl _ _⟩
 ·go_enter Tryz.func310, Tryz.ntmps310
  go_wp2
  go_loop [3] (fun i => i = .int .i64 0) (fun _ => 0)
  case atStart => exact rfl
  case round =>
   obtain rfl := hrel
   go_wp2_with (at_builtin; refine wpList_append_own _ rfl _ _ 180 rfl w.heap.size 156 i0 (.int .u32 0) 1 4 Tryz.underlying180 hi hz0 hz1 hz2 rfl (by decide) _ 0 [] rfl (World.ownsRow_nil _ _ _ _) ad 0 c [] rfl rfl (fun j u hu => by simp at hu) (fun u hu => by simp at hu) (by unfold maxLen; omega) (by omega) (Nat.le_refl _) ?_)
   intro v' w1 hown hg _
   have HO := Lh hown
   clear hown
   go_wp2
   go_ret
   exact ⟨_, rfl, HO.out, (Below.refl _ _).grown hg (Nat.le_refl _) (fun k hk => by simp [Value.ownBlock] at hk)⟩
theorem Ys (b off n c : Nat) (l : List Nat) (w : World) (hn : l.length = n) (hc : n ≤ c) (hm : n ≤ 35184372088832) (h : ∀ k u : Nat, l[k]? = some u → w.cell? ⟨b, off + k, none⟩ = some (.int .u32 (u : Int))) :
  Cp 310 #[.slice (some ⟨b, off, none⟩) n c] w (OwnPost (nrm l) w) := by
 obtain ⟨i0, hi, hz0, hz1, hz2⟩ := info_parts Ei
 have HN := Lh hn
 have HC := Lh h
 have hm1 : (n : Int) ≤ 35184372088832 := by omega
 have hc1 : (n : Int) ≤ (c : Int) := by omega
 clear hn h
 have last : ∀ k : Nat, k ≤ n → Hid (nrm l = l.take k) → ∀ (v' : Value) (w1 : World), w1.ownsRow w.heap.size 156 1 v' k ((l.take k).map fun u => Value.int .u32 (u : Nat)) → w.grownBy w1 (Value.ownBlock (.slice none 0 0)) → OwnPost (nrm l) w (.returned v') w1 := by
  intro k hk HE v' w1 hown hg
  refine ⟨v', rfl, ?_, (Below.refl _ _).grown hg (Nat.le_refl _) (fun k hk => by simp [Value.ownBlock] at hk)⟩
  rw [HE.out]
  have e : (l.take k).length = k := by rw [List.length_take, HN.out]; omega
  unfold OwnW
  rw [e]
  exact hown
 have hnews : ∀ k : Nat, ∀ (j : Nat) u, ((l.take k).map fun u => Value.int .u32 (u : Nat))[j]? = some u → w.cell? ((⟨b, off, none⟩ : Addr).add j) = some u := by
  intro k
  refine Se (fun i u hu => HC.out i u ?_)
  rw [List.getElem?_take] at hu
  split at hu
  ·exact hu
  ·cases hu
 have hlen : ∀ k : Nat, k ≤ n → ((l.take k).map fun u => Value.int .u32 (u : Nat)).length = k * 1 := fun k hk => by
  rw [List.length_map, List.length_take, HN.out]; omega
 have LAST := Lh last
 have NEWS := Lh hnews
 have LEN := Lh hlen
 clear last hnews hlen
 go_enter Tryz.func310, Tryz.ntmps310
 go_wp2
 go_loop [3] (fun i => ∃ k : Nat, i = .int .i64 k ∧ k ≤ n ∧ Hid (∀ j, k ≤ j → j < l.length → l.getD j 0 = 0)) (fun i => (intOf i).toNat)
 case atStart => exact ⟨n, rfl, Nat.le_refl _, Lh (fun j h1 h2 => by have := HN.out; omega)⟩
 case round =>
  obtain ⟨k, rfl, hk, HZ⟩ := hrel
  by_cases h0 : k = 0
  ·have HE := Lh (show nrm l = l.take k from I0 l k (by have := HN.out; omega) HZ.out (.inl h0))
   subst h0
   go_wp2_with (at_builtin; refine wpList_append_own _ rfl _ _ 180 rfl w.heap.size 156 i0 (.int .u32 0) 1 4 Tryz.underlying180 hi hz0 hz1 hz2 rfl (by decide) _ 0 [] rfl (World.ownsRow_nil _ _ _ _) ⟨b, off, none⟩ 0 c ((l.take 0).map fun u => Value.int .u32 (u : Nat)) rfl (LEN.out 0 hk) (NEWS.out 0) (So _) (by unfold maxLen; omega) (by omega) (Nat.le_refl _) ?_)
   intro v' w1 hown hg _
   have HO := Lh (LAST.out 0 hk HE v' w1 (by simpa using hown) hg)
   clear hown
   go_wp2
   go_ret
   exact HO.out
  ·obtain ⟨j, rfl⟩ : ∃ j, k = j + 1 := ⟨k - 1, by omega⟩
   have hj : j < l.length := by have := HN.out; omega
   have hcell := HC.out j _ (getD_some hj)
   have h1 : (j : Int) < (n : Int) := by omega
   by_cases hz : l.getD j 0 = 0
   ·rw [hz] at hcell
    have HZ2 := Lh (show ∀ i, j ≤ i → i < l.length → l.getD i 0 = 0 from fun i h2 h3 => by
     by_cases h4 : i = j
     ·rw [h4]; exact hz
     ·exact HZ.out i (by omega) h3)
    clear hz hj
    go_wp2
    go_round
    case rel => exact ⟨j, by go_num, by omega, HZ2⟩
    case measure => simp [intOf]
   ·have HE := Lh (show nrm l = l.take (j + 1) from I0 l (j + 1) (by omega) HZ.out (.inr (by simpa using hz)))
    obtain ⟨u, hu⟩ : ∃ u, l.getD j 0 = u := ⟨_, rfl⟩
    rw [hu] at hcell hz
    have hz' : ((u : Int) == 0) = false := by simp; omega
    have hjc : (j : Int) + 1 ≤ (c : Int) := by omega
    clear hu hj
    go_wp2_with (at_builtin; refine wpList_append_own _ rfl _ _ 180 rfl w.heap.size 156 i0 (.int .u32 0) 1 4 Tryz.underlying180 hi hz0 hz1 hz2 rfl (by decide) _ 0 [] rfl (World.ownsRow_nil _ _ _ _) ⟨b, off, none⟩ (j + 1) c ((l.take (j + 1)).map fun u => Value.int .u32 (u : Nat)) rfl (LEN.out (j + 1) hk) (NEWS.out (j + 1)) (So _) (by unfold maxLen; omega) (by omega) (Nat.le_refl _) ?_)
    intro v' w1 hown hg _
    have HO := Lh (LAST.out (j + 1) hk HE v' w1 (by simpa using hown) hg)
    clear hown
    go_wp2
    go_ret
    exact HO.out
theorem Bs (A : Option Addr) (n c : Nat) (l : List Nat) (B : Nat) (w : World) (hn : l.length = n) (hc : n ≤ c) (hm : n ≤ 35184372088832) (h : RW w B A l) :
  Cp 310 #[.slice A n c] w (OwnPost (nrm l) w) := by
 rcases Nat.eq_zero_or_pos n with h0 | h0
 ·subst h0
  obtain rfl : l = [] := List.eq_nil_of_length_eq_zero hn
  exact X9 A c w
 ·obtain ⟨b, off, rfl, _, hcell⟩ := h.2 (by omega)
  exact Ys b off n c l w hn hc hm hcell

open Go.RowKit
def SlPost (l : List Nat) (w : World) (e : Ending) (w' : World) : Prop := ∃ v, e = .returned v ∧ Sl w' w'.heap.size v l ∧ Below w.heap.size w w'
theorem SlPost.of {l : List Nat} {w : World} {e : Ending} {w' : World} (hw : Ws l) (h : OwnPost l w e w') : SlPost l w e w' := by
 obtain ⟨v, e, ho, hb⟩ := h
 exact ⟨v, e, ho.sl hw, hb⟩
theorem Aen (A : Option Addr) (n c i : Nat) (l : List Nat) (B : Nat) (w : World) (hn : l.length = n) (hm : n ≤ 35184372088832) (h : RW w B A l) (hi : i < n) :
  Cq 309 #[.slice A n c, .int .i64 i] (.int .u64 (l.getD i 0 : Nat)) w := by
 have hx := h.1.getD i
 obtain ⟨b, off, rfl, _, hc⟩ := h.2 (by omega)
 have hcell := hc i _ (getD_some (by omega))
 obtain ⟨u, hu⟩ : ∃ u, l.getD i 0 = u := ⟨_, rfl⟩
 rw [hu] at hcell hx ⊢
 have hx' : (u : Int) < 4294967296 := by omega
 have h1 : (i : Int) < (n : Int) := by omega
 have h2 : (n : Int) ≤ 35184372088832 := by omega
 clear hn hm h hc hu hi hx
 go_enter Tryz.func309, Tryz.ntmps309
 go_wp2
 go_ret
 exact ⟨rfl, rfl⟩
theorem Aak (A : Option Addr) (n c i : Nat) (l : List Nat) (w : World) (hn : l.length = n) (hi : n ≤ i) :
  Cq 309 #[.slice A n c, .int .i64 i] (.int .u64 (l.getD i 0 : Nat)) w := by
 have e : l.getD i 0 = 0 := Id (by omega)
 rw [e]
 have h1 : ¬ ((i : Int) < (n : Int)) := by omega
 clear hn hi e
 go_enter Tryz.func309, Tryz.ntmps309
 go_wp2
 go_ret
 exact ⟨rfl, rfl⟩
theorem Aj (A : Option Addr) (n c i : Nat) (l : List Nat) (B : Nat) (w : World) (hn : l.length = n) (hm : n ≤ 35184372088832) (h : RW w B A l) :
  Cq 309 #[.slice A n c, .int .i64 i] (.int .u64 (l.getD i 0 : Nat)) w := by
 by_cases hi : i < n
 ·exact Aen A n c i l B w hn hm h hi
 ·exact Aak A n c i l w hn (by omega)
def two (n : Nat) : List Nat := [n % 4294967296, n / 4294967296]
theorem Af4 (w : World) (x y : Nat) (hx : x < 4294967296) (hy : y < 4294967296) : RW (w.alloc (.cells #[.int .u32 (x : Int), .int .u32 (y : Int)] 156)) (w.heap.size + 1) (some ⟨w.heap.size, 0, none⟩) [x, y] := ⟨Ws.cons hx (Ws.cons hy Ws.nil), fun _ => by
 refine ⟨w.heap.size, 0, rfl, by omega, fun k u hu => ?_⟩
 rw [Nat.zero_add, cell_of_row _ _ _ _ _ _ (heap_alloc_new w (.cells #[.int .u32 (x : Int), .int .u32 (y : Int)] 156))]
 match k, hu with
 | 0, hu => simp at hu; subst hu; rfl
 | 1, hu => simp at hu; subst hu; rfl
 | k + 2, hu => simp at hu⟩
theorem Agx {n : Nat} (hn : n < 18446744073709551616) : Ws (two n) := Ws.cons (by omega) (Ws.cons (by omega) Ws.nil)
theorem Zq (n : Nat) : val (two n) = n := by simp only [two, val]; omega
theorem Rl (n : Nat) (hn : n < 18446744073709551616) (w : World) : Cp 304 #[.int .u64 n] w (SlPost (nrm (two n)) w) := by
 have c1 := Av (some ⟨w.heap.size, 0, none⟩) 2 2 (two n) (w.heap.size + 1) _ rfl (Nat.le_refl _) (by omega) (Af4 w (n % 4294967296) (n / 4294967296) (by omega) (by omega))
 have h1 : (n : Int) ≤ 18446744073709551615 := by omega
 have H := Af4 w (n % 4294967296) (n / 4294967296) (by omega) (by omega)
 rw [show ((n % 4294967296 : Nat) : Int) = (n : Int) % 4294967296 by omega, show ((n / 4294967296 : Nat) : Int) = (n : Int) / 4294967296 by omega] at c1 H
 have HH := Lh H
 clear hn H
 go_enter Tryz.func304, Tryz.ntmps304
 go_wp2_with fail
 refine c1.mono ?_
 rintro e w' ⟨rfl, rfl⟩
 go_wp2
 go_ret
 refine ⟨_, rfl, Sl.mk rfl (Nat.le_refl _) (HH.out.nrm.more (by simp)), (Below.refl _ _).alloc (Nat.le_refl _) _⟩
open Go.RowKit
def Row (w : World) (g : Nat) (R : List Nat) : Prop := w.heap[g]? = some (.cells (R.map fun u => Value.int .u32 (u : Nat)).toArray 156 (0, 0))
theorem Row.lt {w : World} {g : Nat} {R : List Nat} (h : Row w g R) : g < w.heap.size := by
 rcases Nat.lt_or_ge g w.heap.size with hlt | hge
 ·exact hlt
 ·unfold Row at h; rw [Array.getElem?_eq_none hge] at h; cases h
theorem Row.cell {w : World} {g : Nat} {R : List Nat} (h : Row w g R) (i : Nat) (hi : i < R.length) : w.cell? ⟨g, i, none⟩ = some (.int .u32 ((R.getD i 0 : Nat) : Int)) := by
 rw [cell_of_row w g i _ _ _ h, List.getElem?_toArray, List.getElem?_map, getD_some hi]; rfl
theorem Row.frozen {w : World} {g : Nat} {R : List Nat} (h : Row w g R) (i : Nat) : w.frozen? ⟨g, i, none⟩ = false := by
 unfold Row at h
 simp [World.frozen?, h]
theorem Row.drewN {w : World} {g : Nat} {R : List Nat} (h : Row w g R) (n : Nat) : Row (w.drewN n) g R := h
theorem Row.below {w w' : World} {g B : Nat} {R : List Nat} (h : Row w g R) (hg : g < B) (hb : Below B w w') : Row w' g R := (hb.block g hg).trans h
theorem Row.set {w : World} {g : Nat} {R : List Nat} (h : Row w g R) (i u : Nat) : Row (w.setCell ⟨g, i, none⟩ (.int .u32 (u : Nat))) g (R.set i u) := by
 unfold Row at h ⊢
 rw [List.map_set]
 simp [World.setCell, Array.getElem?_modify, h]
theorem Row.rw {w : World} {g : Nat} {R : List Nat} (h : Row w g R) (hw : Ws R) (o n : Nat) (ho : o + n ≤ R.length) : RW w (g + 1) (some ⟨g, o, none⟩) ((R.drop o).take n) := ⟨(hw.drop o).take n, fun _ => by
 refine ⟨g, o, rfl, by omega, fun k u hu => ?_⟩
 rw [List.getElem?_take] at hu
 split at hu
 ·next hk =>
  rw [List.getElem?_drop] at hu
  have := h.cell (o + k) (by omega)
  rw [List.getD_eq_getElem?_getD, hu] at this
  exact this
 ·cases hu⟩
theorem Row.rw0 {w : World} {g : Nat} {R : List Nat} (h : Row w g R) (hw : Ws R) : RW w (g + 1) (some ⟨g, 0, none⟩) R := by
 have := h.rw hw 0 R.length (by omega)
 rw [List.drop_zero, List.take_of_length_le (Nat.le_refl _)] at this
 exact this
theorem Row.made (w : World) (n : Nat) : Row (w.alloc (.cells (madeCells #[.int .u32 0] n) 156)) w.heap.size (List.replicate n 0) := by
 have e := heap_alloc_new w (.cells (madeCells #[Value.int .u32 0] n) 156)
 unfold Row
 rw [show madeCells #[Value.int .u32 0] n = (List.replicate n (Value.int .u32 0)).toArray from Array.toList_inj.1 (by rw [toList_madeCells_one, List.toList_toArray])] at e ⊢
 rw [List.map_replicate]
 exact e
theorem Row.own {w : World} {g : Nat} {R : List Nat} (h : Row w g R) {B : Nat} (hB : B ≤ g) (hl : R.length ≤ maxLen) : OwnW B R (.slice (some ⟨g, 0, none⟩) R.length R.length) w := OwnW.of_block hB hl h
theorem Ws.zeros (n : Nat) : Ws (List.replicate n 0) := fun u hu => by rw [List.eq_of_mem_replicate hu]; omega
theorem Nd (n j : Nat) : (List.replicate n 0).getD j 0 = 0 := by
 rw [List.getD_eq_getElem?_getD, List.getElem?_replicate]
 split <;> rfl

open Go.RowKit
def btl (l : List Nat) : Nat := if nrm l = [] then 0 else 32 * ((nrm l).length - 1) + Lib.bitLen (l.getD ((nrm l).length - 1) 0)
theorem T4 : Lib.bitLen 0 = 0 := by decide
theorem F4 (x : Nat) (h : x < 4294967296) : Lib.bitLen x ≤ 32 := Lib.bitLen_le x 32 (by omega) h
theorem Fj (A : Option Addr) (n c : Nat) (l : List Nat) (B : Nat) (w : World) (hn : l.length = n) (hc : n ≤ c) (hm : n ≤ 35184372088832) (h : RW w B A l) :
  Cq 305 #[.slice A n c] (.int .i64 (btl l : Nat)) w := by
 have c1 := Av A n c l B w hn hc hm h
 by_cases h0 : nrm l = []
 ·rw [h0] at c1
  have e : btl l = 0 := by unfold btl; rw [if_pos h0]
  rw [e]
  clear hn hc hm h h0 e
  go_enter Tryz.func305, Tryz.ntmps305
  go_wp2_with (go_at_call 336; refine c1.mono ?_; rintro e w' ⟨rfl, rfl⟩)
  go_ret
  exact ⟨rfl, rfl⟩
 ·have hle := Aw l
  have hp : 0 < (nrm l).length := List.length_pos_iff.2 h0
  have hx := h.1.getD ((nrm l).length - 1)
  have e : btl l = 32 * ((nrm l).length - 1) + Lib.bitLen (l.getD ((nrm l).length - 1) 0) := by unfold btl; rw [if_neg h0]
  obtain ⟨b, off, rfl, _, hcell⟩ := h.2 (by omega)
  obtain ⟨m, hm0⟩ : ∃ m, (nrm l).length = m + 1 := ⟨(nrm l).length - 1, by omega⟩
  have hcl := hcell m _ (getD_some (by omega))
  rw [hm0, Nat.add_sub_cancel] at e hx
  rw [hm0] at c1
  obtain ⟨u, hu⟩ : ∃ u, l.getD m 0 = u := ⟨_, rfl⟩
  rw [hu] at hcl hx e
  have hb := F4 u hx
  have h1 : (m : Int) ≤ 35184372088832 := by omega
  have c2 := fun W => Tryz.bits_Len32 (u : Int) W (by omega) (by omega)
  rw [Int.toNat_natCast] at c2
  have HE := Lh e
  have hb1 : ((Lib.bitLen u : Nat) : Int) ≤ 32 := by omega
  clear hn hc hm h h0 e hle hp hx hcell hu hm0 hb
  go_enter Tryz.func305, Tryz.ntmps305
  go_wp2_with (first | (go_at_call 336; refine c1.mono ?_; rintro e w' ⟨rfl, rfl⟩) | (go_at_call 339; refine (c2 _).mono ?_; rintro e w' ⟨rfl, rfl⟩))
  go_ret
  exact ⟨J9 (by rw [HE.out]; omega), rfl⟩
theorem Cl (A : Option Addr) (n c : Nat) (l : List Nat) (B : Nat) (w : World) (hn : l.length = n) (hc : n ≤ c) (hm : n ≤ 35184372088832) (h : RW w B A l) :
  Ct 311 #[.slice A n c] (.int .i64 (btl l : Nat)) w := by
 have c1 := (Bs A n c l B w hn hc hm h).mono (fun e w' x => SlPost.of h.1.nrm x)
 by_cases h0 : nrm l = []
 ·rw [h0] at c1
  have e : btl l = 0 := by unfold btl; rw [if_pos h0]
  rw [e]
  clear hn hc hm h h0 e
  go_enter Tryz.func311, Tryz.ntmps311
  go_wp2_with fail
  refine c1.mono ?_
  rintro e w' ⟨v, rfl, ⟨A2, c2, rfl, _, _⟩, hb⟩
  go_wp2
  go_ret
  exact ⟨rfl, hb⟩
 ·have hle := Aw l
  have hp : 0 < (nrm l).length := List.length_pos_iff.2 h0
  have hx := h.1.getD ((nrm l).length - 1)
  have e : btl l = 32 * ((nrm l).length - 1) + Lib.bitLen (l.getD ((nrm l).length - 1) 0) := by unfold btl; rw [if_neg h0]
  obtain ⟨m, hm0⟩ : ∃ m, (nrm l).length = m + 1 := ⟨(nrm l).length - 1, by omega⟩
  have hg : (nrm l).getD m 0 = l.getD m 0 := by
   rw [Hl l, List.getD_eq_getElem?_getD, List.getD_eq_getElem?_getD, List.getElem?_take, if_pos (by omega)]
  rw [hm0, Nat.add_sub_cancel] at e hx
  have h1 : (m : Int) ≤ 35184372088832 := by omega
  have HM := Lh hm0
  have HG := Lh hg
  have HE := Lh e
  obtain ⟨u, hu⟩ : ∃ u, l.getD m 0 = u := ⟨_, rfl⟩
  have HU := Lh hu
  rw [hu] at hx
  have HX := Lh hx
  clear hn hc hm h h0 e hle hp hm0 hg hu hx
  go_enter Tryz.func311, Tryz.ntmps311
  go_wp2_with fail
  refine c1.mono ?_
  rintro e w' ⟨v, rfl, ⟨A2, c2, rfl, _, hr⟩, hb⟩
  obtain ⟨b, off, rfl, _, hcell⟩ := hr.2 (by rw [HM.out]; omega)
  have hcl := hcell m _ (getD_some (by rw [HM.out]; omega))
  rw [HG.out, HU.out] at hcl
  rw [HM.out]
  clear hcell hr c1
  go_wp2
  go_loop [4, 5] (fun i t => ∃ k x : Nat, i = .int .i64 ((k : Nat) : Int) ∧ t = .int .u32 (x : Nat) ∧ Hid (x < 4294967296) ∧ k ≤ 32 * m + 32 ∧ Hid (k + Lib.bitLen x = 32 * m + Lib.bitLen u)) (fun _ t => (intOf t).toNat)
  case atStart => exact ⟨32 * m, u, by go_num, rfl, HX, by omega, Lh rfl⟩
  case round =>
   obtain ⟨k, x, rfl, rfl, hx32, hk, HK⟩ := hrel
   by_cases h0 : x = 0
   ·have HZ := Lh (show k = btl l by have := HK.out; rw [h0, T4] at this; rw [HE.out, HU.out]; omega)
    subst h0
    go_wp2
    go_ret
    exact ⟨J9 (by rw [HZ.out]), hb⟩
   ·have h2 : (0 : Int) < (x : Int) := by omega
    have HK2 := Lh (show k + 1 + Lib.bitLen (x / 2) = 32 * m + Lib.bitLen u by
     have := HK.out
     rw [Lib.bitLen_half x h0 (by have := hx32.out; omega)] at this
     omega)
    have hk1 : k + 1 ≤ 32 * m + 32 := by have := HK2.out; have := F4 u HX.out; omega
    have HX2 := Lh (show x / 2 < 4294967296 by have := hx32.out; omega)
    have hk2 : (k : Int) ≤ 1125899906842656 := by omega
    clear h0
    go_wp2
    go_round
    case rel => exact ⟨k + 1, x / 2, by go_num, by go_num, HX2, hk1, HK2⟩
    case measure => simp [intOf]; omega

def pv (r : Nat) (g : Nat → Nat) : Nat → Nat
 | 0 => 0
 | k + 1 => pv r g k * r + g k
theorem Wf (r : Nat) (g : Nat → Nat) (o : Nat) : ∀ n, pv r g (o + n) = pv r g o * r ^ n + pv r (fun i => g (o + i)) n
 | 0 => by simp [pv]
 | n + 1 => by
  rw [← Nat.add_assoc, pv, Wf r g o n, pv, Nat.pow_succ]
  grind
theorem Z6 {r : Nat} {g : Nat → Nat} : ∀ {n : Nat}, (∀ i, i < n → g i < r) → pv r g n < r ^ n
 | 0, _ => by simp [pv]
 | n + 1, h => by
  have h1 := Z6 (fun i hi => h i (by omega)) (r := r) (g := g) (n := n)
  have h2 := h n (by omega)
  rw [pv, Nat.pow_succ]
  have : (pv r g n + 1) * r ≤ r ^ n * r := Nat.mul_le_mul_right _ h1
  rw [Nat.add_mul] at this
  omega
theorem He {r : Nat} {g f : Nat → Nat} : ∀ {n : Nat}, (∀ i, i < n → g i = f i) → pv r g n = pv r f n
 | 0, _ => rfl
 | n + 1, h => by rw [pv, pv, He (fun i hi => h i (by omega)), h n (by omega)]
theorem Mr {r : Nat} {g : Nat → Nat} (hr : 0 < r) {k : Nat} : ∀ {n : Nat}, k ≤ n → pv r g k ≤ pv r g n
 | 0, h => by rw [show k = 0 by omega]; exact Nat.le_refl _
 | n + 1, h => by
  rcases Nat.eq_or_lt_of_le h with h1 | h1
  ·rw [h1]; exact Nat.le_refl _
  ·have h2 := Mr (r := r) (g := g) hr (k := k) (n := n) (by omega)
   rw [pv]
   have : pv r g n * 1 ≤ pv r g n * r := Nat.mul_le_mul_left _ hr
   omega
def dgt (c : Nat) : Nat := if 48 ≤ c ∧ c ≤ 57 then c - 48 else if 97 ≤ c ∧ c ≤ 122 then c - 97 + 10 else if 65 ≤ c ∧ c ≤ 90 then c - 65 + 10 else 36
theorem N1 (c : Nat) : dgt c ≤ 36 := by unfold dgt; split <;> (try split) <;> (try split) <;> omega
def btn (s : ByteArray) (k : Nat) : Nat := (s.data[k]?.getD 0).toNat
theorem Dd (s : ByteArray) (k : Nat) (h : k < s.size) : ((s[k]'h).toNat : Nat) = btn s k := by
 unfold btn
 rw [Array.getElem?_eq_getElem (by exact h)]; rfl
theorem E7 (s : ByteArray) (k : Nat) : btn s k < 256 := (s.data[k]?.getD 0).toNat_lt

open Go.RowKit
def Kb (l : List Nat) (n : Nat) (w : World) (e : Ending) (w' : World) : Prop := ∃ A c, e = .returned (.slice A n c) ∧ (n ≤ c ∧ RW w' w'.heap.size A l) ∧ Below w.heap.size w w'
theorem SlPost.told {l : List Nat} {n : Nat} {w : World} {e : Ending} {w' : World} (h : SlPost l w e w') (hn : l.length = n) : Kb l n w e w' := by
 obtain ⟨v, rfl, ⟨A, c, rfl, hc, hr⟩, hb⟩ := h
 rw [hn] at hc ⊢
 exact ⟨A, c, rfl, ⟨hc, hr⟩, hb⟩
theorem Aj5 (A : Option Addr) (n c : Nat) (l : List Nat) (m : Nat) (w : World) (hn : l.length = n) (hc : n ≤ c) (hm : n ≤ 35184372088832) (h : RW w w.heap.size A l) (hm2 : (nrm l).length = m) :
  Cp 358 #[.slice A n c] w (Kb (nrm l) m w) := (S8 A n c l w hn hc hm h).mono fun _ _ x => (SlPost.of h.1.nrm x).told hm2
open Go.RowKit
theorem Qu (p q : Nat) (hp : p < 4294967296) (hq : q < 4294967296) : bits BinOp.or IntKind.u32 (p : Int) (q : Int) = ((p ||| q : Nat) : Int) := by
 show IntKind.u32.wrap ((BitVec.ofInt 32 (p : Int) ||| BitVec.ofInt 32 (q : Int)).toNat : Int) = _
 have e1 : (BitVec.ofInt 32 (p : Int)).toNat = p := by rw [BitVec.ofInt_natCast, BitVec.toNat_ofNat]; exact Nat.mod_eq_of_lt (by omega)
 have e2 : (BitVec.ofInt 32 (q : Int)).toNat = q := by rw [BitVec.ofInt_natCast, BitVec.toNat_ofNat]; exact Nat.mod_eq_of_lt (by omega)
 have h : p ||| q < 4294967296 := Nat.or_lt_two_pow (n := 32) hp hq
 rw [BitVec.toNat_or, e1, e2, IntKind.wrap_u32]
 omega
theorem Gp (p q : Nat) (hp : p < 18446744073709551616) (hq : q < 18446744073709551616) : bits BinOp.or IntKind.u64 (p : Int) (q : Int) = ((p ||| q : Nat) : Int) := by
 show IntKind.u64.wrap ((BitVec.ofInt 64 (p : Int) ||| BitVec.ofInt 64 (q : Int)).toNat : Int) = _
 have e1 : (BitVec.ofInt 64 (p : Int)).toNat = p := by rw [BitVec.ofInt_natCast, BitVec.toNat_ofNat]; exact Nat.mod_eq_of_lt (by omega)
 have e2 : (BitVec.ofInt 64 (q : Int)).toNat = q := by rw [BitVec.ofInt_natCast, BitVec.toNat_ofNat]; exact Nat.mod_eq_of_lt (by omega)
 have h : p ||| q < 18446744073709551616 := Nat.or_lt_two_pow (n := 64) hp hq
 rw [BitVec.toNat_or, e1, e2, IntKind.wrap_u64]
 omega
theorem Vr (hi lo : Nat) (hl : lo < 4294967296) : (hi * 4294967296 ||| lo) = hi * 4294967296 + lo := by
 rw [Nat.mul_comm, show 4294967296 = 2 ^ 32 from rfl, ← Nat.two_pow_add_eq_or_of_lt hl]

theorem Ea (l : List Nat) (k : Nat) (h : k ≤ l.length) : val l = val (l.take k) + 4294967296 ^ k * val (l.drop k) := by
 have hk : (l.take k).length = k := by rw [List.length_take]; omega
 have := Gl (l.take k) (l.drop k)
 rw [List.take_append_drop, hk] at this
 exact this
theorem Mx {l : List Nat} {k : Nat} (h : val l < 4294967296 ^ k) : val (l.take k) = val l := by
 rcases Nat.lt_or_ge l.length k with h1 | h1
 ·rw [List.take_of_length_le (by omega)]
 ·have e := Ea l k h1
  rcases Nat.eq_zero_or_pos (val (l.drop k)) with h2 | h2
  ·rw [h2] at e; omega
  ·have : 4294967296 ^ k * 1 ≤ 4294967296 ^ k * val (l.drop k) := Nat.mul_le_mul_left _ h2
   omega
theorem Cz (l : List Nat) (i : Nat) (h : i < l.length) : val (l.drop i) = l.getD i 0 + 4294967296 * val (l.drop (i + 1)) := by
 rw [List.drop_eq_getElem_cons h, val]
 congr 1
 rw [List.getD_eq_getElem?_getD, List.getElem?_eq_getElem h]; rfl
/-! ### by a word -/
structure WordT (a : List Nat) (d i : Nat) (S : List Nat) (r : Nat) : Prop where
 len : S.length = a.length
 ws : Ws S
 far : ∀ j, j < i → S.getD j 0 = a.getD j 0
 sum : val (S.drop i) * d + r = val (a.drop i)
 low : r < d
theorem WordT.start {a : List Nat} {d : Nat} (h : Ws a) (hd : 0 < d) : WordT a d a.length a 0 :=
 ⟨rfl, h, fun _ _ => rfl, by rw [List.drop_of_length_le (Nat.le_refl _)]; simp [val], hd⟩
theorem WordT.next {a : List Nat} {d i : Nat} {S : List Nat} {r : Nat} (h : WordT a d (i + 1) S r) (ha : Ws a) (hi : i < a.length) (hd : d < 4294967296) :
  S.getD i 0 = a.getD i 0 ∧ (r * 4294967296 + a.getD i 0) / d < 4294967296 ∧ WordT a d i (S.set i ((r * 4294967296 + a.getD i 0) / d)) ((r * 4294967296 + a.getD i 0) % d) := by
 obtain ⟨h1, h2, h3, h4, h5⟩ := h
 have hx := ha.getD i
 have hd0 : 0 < d := by omega
 have hq : (r * 4294967296 + a.getD i 0) / d < 4294967296 := by
  rw [Nat.div_lt_iff_lt_mul hd0]
  have : (r + 1) * 4294967296 ≤ d * 4294967296 := Nat.mul_le_mul_right _ h5
  omega
 refine ⟨h3 i (by omega), hq, by rw [List.length_set]; exact h1, h2.set hq, fun j hj => by rw [Ao (by omega)]; exact h3 j (by omega), ?_, Nat.mod_lt _ hd0⟩
 rw [Cz _ i (by rw [List.length_set]; omega), Bp (by omega), Cz a i hi, List.drop_set, if_pos (by omega)]
 have e := Nat.mod_add_div (r * 4294967296 + a.getD i 0) d
 generalize (r * 4294967296 + a.getD i 0) / d = q at *
 generalize (r * 4294967296 + a.getD i 0) % d = z at *
 generalize val (S.drop (i + 1)) = V at *
 rw [← h4]
 grind
theorem WordT.fin {a : List Nat} {d : Nat} {S : List Nat} {r : Nat} (h : WordT a d 0 S r) : val S = val a / d ∧ r = val a % d := by
 obtain ⟨h1, h2, h3, h4, h5⟩ := h
 rw [List.drop_zero, List.drop_zero] at h4
 have e1 : val a / d = val S := by
  rw [← h4, Nat.add_comm, Nat.add_mul_div_right _ _ (by omega), Nat.div_eq_of_lt h5, Nat.zero_add]
 have e2 := Nat.mod_add_div (val a) d
 rw [e1, Nat.mul_comm] at e2
 exact ⟨e1.symm, by omega⟩

open Go.RowKit
end
section
def Ay (r : Nat) : Nat := if r < 4503599627370496 then r else (4503599627370496 + r % 4503599627370496) * 2 ^ (r / 4503599627370496 - 1)
theorem Es {r s : Nat} (h : r < s) : Ay r < Ay s := by
 unfold Ay
 by_cases h1 : r < 4503599627370496
 ·rw [if_pos h1]
  by_cases h2 : s < 4503599627370496
  ·rw [if_pos h2]; exact h
  ·rw [if_neg h2]
   have h3 : (4503599627370496 + s % 4503599627370496) * 1 ≤ (4503599627370496 + s % 4503599627370496) * 2 ^ (s / 4503599627370496 - 1) := Nat.mul_le_mul_left _ (Nat.two_pow_pos _)
   omega
 ·have h2 : ¬ s < 4503599627370496 := by omega
  rw [if_neg h1, if_neg h2]
  have e1 := Nat.div_add_mod r 4503599627370496
  have e2 := Nat.div_add_mod s 4503599627370496
  have l1 : r % 4503599627370496 < 4503599627370496 := Nat.mod_lt _ (by omega)
  have l2 : s % 4503599627370496 < 4503599627370496 := Nat.mod_lt _ (by omega)
  have q1 : 1 ≤ r / 4503599627370496 := by omega
  have q3 : r / 4503599627370496 ≤ s / 4503599627370496 := by omega
  generalize r / 4503599627370496 = q at *
  generalize s / 4503599627370496 = p at *
  generalize r % 4503599627370496 = t at *
  generalize s % 4503599627370496 = u at *
  obtain ⟨a, rfl⟩ : ∃ a, q = a + 1 := ⟨q - 1, by omega⟩
  rw [Nat.add_sub_cancel]
  rcases Nat.eq_or_lt_of_le q3 with h3 | h3
  ·rw [← h3, Nat.add_sub_cancel]
   have h4 : t < u := by omega
   exact Nat.mul_lt_mul_of_pos_right (by omega) (Nat.two_pow_pos _)
  ·obtain ⟨b, rfl⟩ : ∃ b, p = a + 1 + b + 1 := ⟨p - a - 2, by omega⟩
   rw [Nat.add_sub_cancel]
   have h5 : (4503599627370496 + t) * 2 ^ a < (2 * 4503599627370496) * 2 ^ a := Nat.mul_lt_mul_of_pos_right (by omega) (Nat.two_pow_pos _)
   have h6 : 2 * 4503599627370496 * 2 ^ a = 4503599627370496 * 2 ^ (a + 1) := by rw [Nat.pow_succ]; grind
   have h7 : 4503599627370496 * 2 ^ (a + 1) ≤ (4503599627370496 + u) * 2 ^ (a + 1 + b) := Nat.mul_le_mul (by omega) (Nat.pow_le_pow_right (by omega) (by omega))
   omega
theorem Ia {r s : Nat} : Ay r < Ay s ↔ r < s := by
 refine ⟨fun h => ?_, Es⟩
 rcases Nat.lt_or_ge r s with h1 | h1
 ·exact h1
 ·rcases Nat.eq_or_lt_of_le h1 with h2 | h2
  ·rw [h2] at h; omega
  ·have := Es h2; omega
theorem J4 {r s : Nat} (h : Ay r = Ay s) : r = s := by
 rcases Nat.lt_trichotomy r s with h1 | h1 | h1
 ·have := Es h1; omega
 ·exact h1
 ·have := Es h1; omega
def Cm (w : Nat) : Nat := w % 9223372036854775808
def Eg (w : Nat) : Bool := w / 9223372036854775808 % 2 == 1
theorem Gz {w : Nat} (h : Cm w < 9218868437227405312) : ∃ m e, Ieee.double.read w = .number (Eg w) m e ∧ -1074 ≤ e ∧ Ay (Cm w) = m * 2 ^ (e + 1074).toNat := by
 have e1 : Ieee.double.signWeight = 9223372036854775808 := by decide
 have e2 : Ieee.double.binade = 4503599627370496 := by decide
 have e3 : Ieee.double.infRung = 9218868437227405312 := by decide
 have e4 : Ieee.double.leastPlace = -1074 := by decide
 unfold Cm at h ⊢
 unfold Ieee.Format.read
 simp only [e1, e2, e3, e4]
 unfold Ay Eg
 by_cases h1 : w % 9223372036854775808 < 4503599627370496
 ·rw [if_pos h1, if_pos h1]
  exact ⟨_, _, rfl, by omega, by simp⟩
 ·rw [if_neg h1, if_neg h1, if_pos h]
  refine ⟨_, _, rfl, by omega, ?_⟩
  congr 2
  omega
theorem Jw {w : Nat} (h : Cm w = 9218868437227405312) : Ieee.double.read w = .infinity (Eg w) := by
 have e1 : Ieee.double.signWeight = 9223372036854775808 := by decide
 have e2 : Ieee.double.binade = 4503599627370496 := by decide
 have e3 : Ieee.double.infRung = 9218868437227405312 := by decide
 unfold Cm at h
 unfold Ieee.Format.read Eg
 simp only [e1, e2, e3]
 rw [if_neg (by omega), if_neg (by omega), if_pos h]
theorem Uq {w : Nat} (h : 9218868437227405312 < Cm w) : ∃ t, Ieee.double.read w = .nan (Eg w) t := by
 have e1 : Ieee.double.signWeight = 9223372036854775808 := by decide
 have e2 : Ieee.double.binade = 4503599627370496 := by decide
 have e3 : Ieee.double.infRung = 9218868437227405312 := by decide
 unfold Cm at h
 unfold Ieee.Format.read Eg
 simp only [e1, e2, e3]
 rw [if_neg (by omega), if_neg (by omega), if_neg (by omega)]
 exact ⟨_, rfl⟩
def Gc (w : Nat) : Int := if Eg w = true then -(Cm w : Nat) else (Cm w : Nat)
theorem K5 (s : Bool) (m k : Nat) : Ieee.signed s m k = if s = true then -((m * 2 ^ k : Nat) : Int) else ((m * 2 ^ k : Nat) : Int) := by
 unfold Ieee.signed
 rw [Nat.shiftLeft_eq]
theorem Abs {a b : Int} {c : Nat} (hc : 0 < c) : compare (a * c) (b * c) = compare a b := by
 have hc' : (0 : Int) < (c : Int) := by omega
 have h1 : a * c < b * c ↔ a < b := Int.mul_lt_mul_right hc'
 have h2 : a * c = b * c ↔ a = b := ⟨fun h => Int.eq_of_mul_eq_mul_right (by omega) h, fun h => by rw [h]⟩
 simp only [compare, compareOfLessAndEq, h1, h2]
theorem Wm {s t : Bool} {r q : Nat} : compare (if s = true then -((Ay r : Nat) : Int) else ((Ay r : Nat) : Int)) (if t = true then -((Ay q : Nat) : Int) else ((Ay q : Nat) : Int)) = compare (if s = true then -((r : Nat) : Int) else (r : Int)) (if t = true then -((q : Nat) : Int) else (q : Int)) := by
 have z : Ay 0 = 0 := rfl
 have p : ∀ x, 0 < Ay x ↔ 0 < x := fun x => by have := @Ia 0 x; rw [z] at this; exact this
 have p1 := p r
 have p2 := p q
 have l1 := @Ia r q
 have l2 := @Ia q r
 have l3 : Ay r = Ay q ↔ r = q := ⟨J4, fun h => by rw [h]⟩
 generalize Ay r = R at *
 generalize Ay q = Q at *
 have key : ∀ a b c d : Int, (a < b ↔ c < d) → (a = b ↔ c = d) → compare a b = compare c d := by
  intro a b c d h1 h2
  simp only [compare, compareOfLessAndEq, h1, h2]
 cases s <;> cases t <;> simp only [if_true, Bool.false_eq_true, if_false] <;> refine key _ _ _ _ ?_ ?_ <;> omega
theorem Ht {x y : Nat} (hx : Cm x ≤ 9218868437227405312) (hy : Cm y ≤ 9218868437227405312) : Ieee.double.order x y = some (compare (Gc x) (Gc y)) := by
 unfold Ieee.Format.order Gc
 rcases Nat.eq_or_lt_of_le hx with hx | hx <;> rcases Nat.eq_or_lt_of_le hy with hy | hy
 ·rw [Jw hx, Jw hy, hx, hy]
  unfold Ieee.Datum.order
  cases Eg x <;> cases Eg y <;> rfl
 ·obtain ⟨m, e, h1, _, _⟩ := Gz hy
  rw [Jw hx, h1, hx]
  unfold Ieee.Datum.order
  simp only
  congr 1
  cases Eg x <;> cases Eg y <;> simp only [if_true, Bool.false_eq_true, if_false] <;> simp only [compare, compareOfLessAndEq] <;> (repeat' split) <;> first | rfl | omega
 ·obtain ⟨m, e, h1, _, _⟩ := Gz hx
  rw [Jw hy, h1, hy]
  unfold Ieee.Datum.order
  simp only
  congr 1
  cases Eg x <;> cases Eg y <;> simp only [if_true, Bool.false_eq_true, if_false] <;> simp only [compare, compareOfLessAndEq] <;> (repeat' split) <;> first | rfl | omega
 ·obtain ⟨m, e, h1, e1, f1⟩ := Gz hx
  obtain ⟨n, d, h2, e2, f2⟩ := Gz hy
  rw [h1, h2]
  unfold Ieee.Datum.order
  simp only
  rw [← Wm, f1, f2, K5, K5]
  congr 1
  obtain ⟨B, hB⟩ : ∃ B, min e d = B := ⟨_, rfl⟩
  rw [hB]
  obtain ⟨k, hk⟩ : ∃ k : Nat, (k : Int) = B + 1074 := ⟨(B + 1074).toNat, by omega⟩
  have ee : (e + 1074).toNat = (e - B).toNat + k := by omega
  have ed : (d + 1074).toNat = (d - B).toNat + k := by omega
  rw [ee, ed, Nat.pow_add, Nat.pow_add]
  rw [← Abs (c := 2 ^ k) (Nat.two_pow_pos k)]
  congr 1
  ·cases Eg x <;> simp <;> grind
  ·cases Eg y <;> simp <;> grind
theorem Ic {x y : Nat} (h : 9218868437227405312 < Cm x ∨ 9218868437227405312 < Cm y) : Ieee.double.order x y = none := by
 unfold Ieee.Format.order
 rcases h with h | h
 ·obtain ⟨t, h1⟩ := Uq h
  rw [h1]; rfl
 ·obtain ⟨t, h1⟩ := Uq h
  rw [h1]
  cases Ieee.double.read x <;> rfl

theorem Kc {N L : Nat} (h1 : 2 ^ L ≤ N) (h2 : N < 2 ^ (L + 1)) : N.log2 = L := by
 have h0 : N ≠ 0 := by have := Nat.two_pow_pos L; omega
 have a1 := (Nat.le_log2 h0).2 h1
 have a2 := (Nat.log2_lt h0).2 h2
 omega
theorem Db (N : Nat) (h : 0 < N) : 2 ^ N.log2 ≤ N ∧ N < 2 ^ (N.log2 + 1) := ⟨(Nat.le_log2 (by omega)).1 (Nat.le_refl _), (Nat.log2_lt (by omega)).1 (Nat.lt_succ_self _)⟩
def evn (n d : Nat) : Nat := n / 2 ^ d + (decide (2 ^ d < 2 * (n % 2 ^ d)) || (decide (2 ^ d = 2 * (n % 2 ^ d)) && decide (n / 2 ^ d % 2 = 1))).toNat
theorem Ew (n d : Nat) (h : d ≤ n.log2 + 2) : Ieee.Toward.even.cut false n d = evn n d := by
 unfold Ieee.Toward.cut evn
 rw [Nat.min_eq_left h, Nat.one_shiftLeft]
 rfl
theorem D9 (m d : Nat) : evn (m * 2 ^ d) d = m := by
 unfold evn
 have := Nat.two_pow_pos d
 rw [Nat.mul_mod_left, Nat.mul_div_cancel _ this]
 rw [decide_eq_false (by omega), decide_eq_false (by omega)]
 rfl
def fl (N : Nat) : Nat := FloatKind.f64.nearest (N : Int)
theorem J8 (N : Nat) : fl N = Ieee.double.nearest false N 0 := by
 unfold fl FloatKind.nearest FloatKind.encode Ieee.Format.write
 have : decide ((N : Int) < 0) = false := decide_eq_false (by omega)
 simp only [this, Int.natAbs_natCast]
 rfl
theorem Kh (f : Ieee.Format) (r : Nat) : f.word false r = r := rfl
theorem Tl (N L k : Nat) (h1 : 2 ^ L ≤ N) (h2 : N < 2 ^ (L + 1)) (hL : L ≤ 52) : Ieee.double.nearest false (N * 2 ^ k) (-(k : Int)) = (L + 1022) * 4503599627370496 + N * 2 ^ (52 - L) := by
 have e2 : Ieee.double.binade = 4503599627370496 := by decide
 have e3 : Ieee.double.infRung = 9218868437227405312 := by decide
 have e4 : Ieee.double.leastPlace = -1074 := by decide
 have e5 : Ieee.double.fractionBits = 52 := rfl
 have hN := Nat.two_pow_pos L
 have hk := Nat.two_pow_pos k
 have hlog : (N * 2 ^ k).log2 = L + k := Kc (by rw [Nat.pow_add]; exact Nat.mul_le_mul_right _ h1) (by rw [show L + k + 1 = (L + 1) + k by omega, Nat.pow_add 2 (L + 1) k]; exact Nat.mul_lt_mul_of_pos_right h2 hk)
 have h0 : N * 2 ^ k ≠ 0 := by
  have := Nat.mul_pos (show 0 < N by omega) hk
  omega
 unfold Ieee.Format.nearest
 rw [if_neg h0, e2, e3, e4, e5, hlog]
 have e6 : max (-(k : Int) + ((L + k : Nat) : Int) - (52 : Nat)) (-1074) = (L : Int) - 52 := by omega
 rw [e6]
 dsimp only
 have h3 : N * 2 ^ (52 - L) < 9007199254740992 := by
  have : N * 2 ^ (52 - L) < 2 ^ (L + 1) * 2 ^ (52 - L) := Nat.mul_lt_mul_of_pos_right h2 (Nat.two_pow_pos _)
  rw [← Nat.pow_add, show L + 1 + (52 - L) = 53 by omega] at this
  exact this
 have hcut : Ieee.Toward.even.cut false ((N * 2 ^ k) <<< (-(k : Int) - ((L : Int) - 52)).toNat) ((L : Int) - 52 - -(k : Int)).toNat = N * 2 ^ (52 - L) := by
  rcases Nat.lt_or_ge (52 - L) k with hc | hc
  ·have q1 : (-(k : Int) - ((L : Int) - 52)).toNat = 0 := by omega
   have q2 : ((L : Int) - 52 - -(k : Int)).toNat = k - (52 - L) := by omega
   rw [q1, q2, Nat.shiftLeft_zero, Ew _ _ (by rw [hlog]; omega)]
   rw [show N * 2 ^ k = N * 2 ^ (52 - L) * 2 ^ (k - (52 - L)) by rw [Nat.mul_assoc, ← Nat.pow_add]; congr 2; omega]
   exact D9 _ _
  ·have q1 : (-(k : Int) - ((L : Int) - 52)).toNat = 52 - L - k := by omega
   have q2 : ((L : Int) - 52 - -(k : Int)).toNat = 0 := by omega
   rw [q1, q2, Ew _ _ (Nat.zero_le _), Nat.shiftLeft_eq, Nat.mul_assoc, ← Nat.pow_add, show k + (52 - L - k) = 52 - L by omega]
   have := D9 (N * 2 ^ (52 - L)) 0
   rwa [Nat.pow_zero, Nat.mul_one] at this
 rw [hcut]
 have e7 : ((L : Int) - 52 - -1074).toNat = L + 1022 := by omega
 rw [e7, Nat.min_eq_left (by omega), Kh]
theorem Ns {N L : Nat} (h1 : 2 ^ L ≤ N) (h2 : N < 2 ^ (L + 1)) (hL : L ≤ 52) : fl N = (L + 1022) * 4503599627370496 + N * 2 ^ (52 - L) := by
 rw [J8]
 have h := Tl N L 0 h1 h2 hL
 have e : -((0 : Nat) : Int) = 0 := rfl
 rw [Nat.pow_zero, Nat.mul_one, e] at h
 exact h
theorem Mf {N L : Nat} (h1 : 2 ^ L ≤ N) (h2 : N < 2 ^ (L + 1)) (hL : 52 ≤ L) : fl N = min ((L + 1022) * 4503599627370496 + evn N (L - 52)) 9218868437227405312 := by
 have e2 : Ieee.double.binade = 4503599627370496 := by decide
 have e3 : Ieee.double.infRung = 9218868437227405312 := by decide
 have e4 : Ieee.double.leastPlace = -1074 := by decide
 have e5 : Ieee.double.fractionBits = 52 := rfl
 have hN := Nat.two_pow_pos L
 have hlog := Kc h1 h2
 rw [J8]
 unfold Ieee.Format.nearest
 rw [if_neg (by omega), e2, e3, e4, e5, hlog]
 have e6 : max (0 + (L : Int) - (52 : Nat)) (-1074) = (L : Int) - 52 := by omega
 rw [e6]
 dsimp only
 have q1 : ((0 : Int) - ((L : Int) - 52)).toNat = 0 := by omega
 have q2 : ((L : Int) - 52 - 0).toNat = L - 52 := by omega
 rw [q1, q2, Nat.shiftLeft_zero, Ew _ _ (by rw [hlog]; omega)]
 have e7 : ((L : Int) - 52 - -1074).toNat = L + 1022 := by omega
 rw [e7, Kh]
theorem fl_zero : fl 0 = 0 := by rw [J8]; decide
theorem Nm (N k : Nat) (h : N < 9007199254740992) : Ieee.double.nearest false (N * 2 ^ k) (-(k : Int)) = fl N := by
 rcases Nat.eq_zero_or_pos N with h0 | h0
 ·subst h0
  rw [fl_zero, Nat.zero_mul]
  rfl
 ·obtain ⟨a1, a2⟩ := Db N h0
  have hL : N.log2 ≤ 52 := by
   have : 2 ^ N.log2 < 2 ^ 53 := Nat.lt_of_le_of_lt a1 h
   have := (Nat.pow_lt_pow_iff_right (a := 2) (by omega)).1 this
   omega
  rw [Tl N _ k a1 a2 hL, Ns a1 a2 hL]
theorem Mm (N : Nat) (h : N < 9007199254740992) : ∃ k : Nat, Ieee.double.read (fl N) = .number false (N * 2 ^ k) (-(k : Int)) := by
 rcases Nat.eq_zero_or_pos N with h0 | h0
 ·subst h0
  obtain ⟨K, hK⟩ : ∃ K : Nat, K = 1074 := ⟨_, rfl⟩
  refine ⟨K, ?_⟩
  rw [fl_zero, Nat.zero_mul, show -(K : Int) = -1074 by omega]
  decide
 ·obtain ⟨a1, a2⟩ := Db N h0
  have hL : N.log2 ≤ 52 := by
   have : 2 ^ N.log2 < 2 ^ 53 := Nat.lt_of_le_of_lt a1 h
   have := (Nat.pow_lt_pow_iff_right (a := 2) (by omega)).1 this
   omega
  rw [Ns a1 a2 hL]
  obtain ⟨L, hLL⟩ : ∃ L, N.log2 = L := ⟨_, rfl⟩
  rw [hLL] at a1 a2 hL ⊢
  have h3 : N * 2 ^ (52 - L) < 9007199254740992 := by
   have : N * 2 ^ (52 - L) < 2 ^ (L + 1) * 2 ^ (52 - L) := Nat.mul_lt_mul_of_pos_right a2 (Nat.two_pow_pos _)
   rw [← Nat.pow_add, show L + 1 + (52 - L) = 53 by omega] at this
   exact this
  have h4 : 4503599627370496 ≤ N * 2 ^ (52 - L) := by
   have : 2 ^ L * 2 ^ (52 - L) ≤ N * 2 ^ (52 - L) := Nat.mul_le_mul_right _ a1
   rw [← Nat.pow_add, show L + (52 - L) = 52 by omega] at this
   exact this
  refine ⟨52 - L, ?_⟩
  obtain ⟨M, hM⟩ : ∃ M, N * 2 ^ (52 - L) = M := ⟨_, rfl⟩
  rw [hM] at h3 h4 ⊢
  have e1 : Ieee.double.signWeight = 9223372036854775808 := by decide
  have e2 : Ieee.double.binade = 4503599627370496 := by decide
  have e3 : Ieee.double.infRung = 9218868437227405312 := by decide
  have e4 : Ieee.double.leastPlace = -1074 := by decide
  unfold Ieee.Format.read
  rw [e1, e2, e3, e4]
  have q1 : ((L + 1022) * 4503599627370496 + M) % 9223372036854775808 = (L + 1022) * 4503599627370496 + M := Nat.mod_eq_of_lt (by omega)
  have q2 : ((L + 1022) * 4503599627370496 + M) / 9223372036854775808 % 2 = 0 := by omega
  have q3 : 4503599627370496 + ((L + 1022) * 4503599627370496 + M) % 4503599627370496 = M := by omega
  have q4 : (-1074 : Int) + ((((L + 1022) * 4503599627370496 + M) / 4503599627370496 - 1 : Nat) : Int) = -((52 - L : Nat) : Int) := by omega
  simp only [q1, q2, q3, q4]
  rw [if_neg (by omega), if_pos (by omega)]
  rfl
theorem Adl {a b : Nat} (ha : a < 9007199254740992) (hb : b < 9007199254740992) (hab : a + b < 9007199254740992) : Ieee.double.add (fl a) (fl b) = some (fl (a + b)) := by
 obtain ⟨k, hk⟩ := Mm a ha
 obtain ⟨l, hl⟩ := Mm b hb
 unfold Ieee.Format.add
 rw [hk, hl]
 have hsum : ∃ j : Nat, Ieee.Datum.sum (.number false (a * 2 ^ k) (-(k : Int))) (.number false (b * 2 ^ l) (-(l : Int))) = some (.number false ((a + b) * 2 ^ j) (-(j : Int))) := by
  refine ⟨max k l, ?_⟩
  unfold Ieee.Datum.sum
  simp only [K5, Bool.false_eq_true, if_false]
  have b1 : min (-(k : Int)) (-(l : Int)) = -((max k l : Nat) : Int) := by omega
  rw [b1]
  have b2 : (-(k : Int) - -((max k l : Nat) : Int)).toNat = max k l - k := by omega
  have b3 : (-(l : Int) - -((max k l : Nat) : Int)).toNat = max k l - l := by omega
  rw [b2, b3]
  have b4 : a * 2 ^ k * 2 ^ (max k l - k) = a * 2 ^ max k l := by rw [Nat.mul_assoc, ← Nat.pow_add]; congr 2; omega
  have b5 : b * 2 ^ l * 2 ^ (max k l - l) = b * 2 ^ max k l := by rw [Nat.mul_assoc, ← Nat.pow_add]; congr 2; omega
  rw [b4, b5, ← Int.natCast_add, ← Nat.add_mul, Int.natAbs_natCast]
  have b6 : decide ((((a + b) * 2 ^ max k l : Nat) : Int) < 0) = false := decide_eq_false (by omega)
  rw [b6]
  simp
 obtain ⟨j, hj⟩ := hsum
 rw [hj]
 show some (Ieee.double.nearest false ((a + b) * 2 ^ j) (-(j : Int))) = _
 rw [Nm _ _ hab]
theorem Adz {a b : Nat} (ha : a < 9007199254740992) (hb : b < 9007199254740992) (hab : a * b < 9007199254740992) : Ieee.double.mul (fl a) (fl b) = some (fl (a * b)) := by
 obtain ⟨k, hk⟩ := Mm a ha
 obtain ⟨l, hl⟩ := Mm b hb
 unfold Ieee.Format.mul
 rw [hk, hl]
 show some (Ieee.double.nearest false (a * 2 ^ k * (b * 2 ^ l)) (-(k : Int) + -(l : Int))) = _
 rw [show a * 2 ^ k * (b * 2 ^ l) = a * b * 2 ^ (k + l) by rw [Nat.pow_add]; grind, show -(k : Int) + -(l : Int) = -((k + l : Nat) : Int) by omega, Nm _ _ hab]

theorem P7 : Ay 0 = 0 := rfl
theorem Gg {r : Nat} : 0 < Ay r ↔ 0 < r := by have := @Ia 0 r; rw [P7] at this; exact this
theorem Ex {r : Nat} (h : r < 9007199254740992) : Ay r = r := by
 unfold Ay
 by_cases h1 : r < 4503599627370496
 ·rw [if_pos h1]
 ·rw [if_neg h1, show r / 4503599627370496 = 1 by omega, Nat.sub_self, Nat.pow_zero]; omega
theorem Ba (M d : Nat) (h1 : 4503599627370496 ≤ M) (h2 : M < 9007199254740992) : Ay (d * 4503599627370496 + M) = M * 2 ^ d := by
 unfold Ay
 rw [if_neg (by omega), show (d * 4503599627370496 + M) % 4503599627370496 = M - 4503599627370496 by omega, show (d * 4503599627370496 + M) / 4503599627370496 = d + 1 by omega, Nat.add_sub_cancel]
 rw [show 4503599627370496 + (M - 4503599627370496) = M by omega]
theorem El {r : Nat} (h : 4503599627370496 ≤ r) : ∃ M d, 4503599627370496 ≤ M ∧ M < 9007199254740992 ∧ r = d * 4503599627370496 + M ∧ Ay r = M * 2 ^ d :=
 ⟨4503599627370496 + r % 4503599627370496, r / 4503599627370496 - 1, by omega, by omega, by omega, by unfold Ay; rw [if_neg (by omega)]⟩
theorem Jq {M d : Nat} (h : 0 < M) : (M * 2 ^ d).log2 = M.log2 + d := by
 obtain ⟨a1, a2⟩ := Db M h
 refine Kc ?_ ?_
 ·rw [Nat.pow_add]; exact Nat.mul_le_mul_right _ a1
 ·rw [show M.log2 + d + 1 = M.log2 + 1 + d by omega, Nat.pow_add]; exact Nat.mul_lt_mul_of_pos_right a2 (Nat.two_pow_pos d)
theorem Agn {M : Nat} (h1 : 4503599627370496 ≤ M) (h2 : M < 9007199254740992) : M.log2 = 52 := Kc (show 2 ^ 52 ≤ M by exact h1) (show M < 2 ^ 53 by exact h2)
theorem Rh (s : Bool) (n d : Nat) : Ieee.Toward.even.cut s n d = Ieee.Toward.even.cut false n d := rfl
theorem Dt {x y a b : Nat} (h : x * 2 ^ (a + b) = y * 2 ^ b) : x * 2 ^ a = y := by
 rw [Nat.pow_add, ← Nat.mul_assoc] at h
 exact Nat.eq_of_mul_eq_mul_right (Nat.two_pow_pos b) h
theorem Tw (s : Bool) {r m a b : Nat} {e : Int} (hr : r < 9218868437227405312) (hab : (a : Int) - b = e + 1074) (h : m * 2 ^ a = Ay r * 2 ^ b) : Ieee.double.nearest s m e = Ieee.double.word s r := by
 have e2 : Ieee.double.binade = 4503599627370496 := by decide
 have e3 : Ieee.double.infRung = 9218868437227405312 := by decide
 have e4 : Ieee.double.leastPlace = -1074 := by decide
 have e5 : Ieee.double.fractionBits = 52 := rfl
 unfold Ieee.Format.nearest
 rcases Nat.eq_zero_or_pos r with h0 | h0
 ·subst h0
  rw [P7, Nat.zero_mul] at h
  have hm : m = 0 := (Nat.mul_eq_zero.1 h).resolve_right (by have := Nat.two_pow_pos a; omega)
  rw [if_pos hm]
 ·have hf := Gg.2 h0
  have hm : 0 < m := by
   rcases Nat.eq_zero_or_pos m with h1 | h1
   ·rw [h1, Nat.zero_mul] at h
    have := Nat.mul_pos hf (Nat.two_pow_pos b)
    omega
   ·exact h1
  rw [if_neg (by omega), e2, e3, e4, e5]
  have hlog : m.log2 + a = (Ay r).log2 + b := by rw [← Jq hm, ← Jq hf, h]
  obtain ⟨L, hL⟩ : ∃ L, m.log2 = L := ⟨_, rfl⟩
  rw [hL] at hlog ⊢
  dsimp only
  by_cases hlow : r < 9007199254740992
  ·have hfr := Ex hlow
   rw [hfr] at hlog h
   have hl : r.log2 ≤ 52 := by have := (Nat.log2_lt (n := r) (k := 53) (by omega)).2 hlow; omega
   have e6 : max (e + (L : Int) - (52 : Nat)) (-1074) = -1074 := by omega
   rw [e6, Rh]
   have hcut : Ieee.Toward.even.cut false (m <<< (e - -1074).toNat) (-1074 - e).toNat = r := by
    rcases Nat.lt_or_ge a b with hlt | hge
    ·obtain ⟨c, rfl⟩ : ∃ c, b = c + a := ⟨b - a, by omega⟩
     have hmm : m = r * 2 ^ c := (Dt (x := r) (y := m) h.symm).symm
     have q1 : (e - -1074).toNat = 0 := by omega
     have q2 : (-1074 - e).toNat = c := by omega
     rw [q1, q2, Nat.shiftLeft_zero, Ew _ _ (by rw [hmm, Jq h0]; omega), hmm, D9]
    ·obtain ⟨c, rfl⟩ : ∃ c, a = c + b := ⟨a - b, by omega⟩
     have hmm : m * 2 ^ c = r := Dt h
     have q1 : (e - -1074).toNat = c := by omega
     have q2 : (-1074 - e).toNat = 0 := by omega
     rw [q1, q2, Nat.shiftLeft_eq, hmm, Ew _ _ (Nat.zero_le _)]
     have := D9 r 0
     rwa [Nat.pow_zero, Nat.mul_one] at this
   rw [hcut, show (-1074 - -1074 : Int).toNat = 0 by omega, Nat.zero_mul, Nat.zero_add, Nat.min_eq_left (by omega)]
  ·obtain ⟨M, d, h1, h2, hrd, hfr⟩ := El (r := r) (by omega)
   rw [hfr, Jq (by omega), Agn h1 h2] at hlog
   rw [hfr] at h
   have hd : 0 < d := by omega
   have e6 : max (e + (L : Int) - (52 : Nat)) (-1074) = (d : Int) - 1074 := by omega
   rw [e6, Rh]
   have hcut : Ieee.Toward.even.cut false (m <<< (e - ((d : Int) - 1074)).toNat) ((d : Int) - 1074 - e).toNat = M := by
    rw [Nat.mul_assoc, ← Nat.pow_add] at h
    rcases Nat.lt_or_ge a (d + b) with hlt | hge
    ·obtain ⟨c, hc⟩ : ∃ c, d + b = c + a := ⟨d + b - a, by omega⟩
     rw [hc] at h
     have hmm : m = M * 2 ^ c := (Dt (x := M) (y := m) h.symm).symm
     have q1 : (e - ((d : Int) - 1074)).toNat = 0 := by omega
     have q2 : ((d : Int) - 1074 - e).toNat = c := by omega
     rw [q1, q2, Nat.shiftLeft_zero, Ew _ _ (by rw [hL]; omega), hmm, D9]
    ·obtain ⟨c, hc⟩ : ∃ c, a = c + (d + b) := ⟨a - (d + b), by omega⟩
     rw [hc] at h
     have hmm : m * 2 ^ c = M := Dt h
     have q1 : (e - ((d : Int) - 1074)).toNat = c := by omega
     have q2 : ((d : Int) - 1074 - e).toNat = 0 := by omega
     rw [q1, q2, Nat.shiftLeft_eq, hmm, Ew _ _ (Nat.zero_le _)]
     have := D9 M 0
     rwa [Nat.pow_zero, Nat.mul_one] at this
   rw [hcut, show ((d : Int) - 1074 - -1074).toNat = d by omega, Nat.min_eq_left (by omega), ← hrd]
theorem Afm {N M j : Nat} (hN : N = M * 2 ^ j) (hM : M < 9007199254740992) : ∃ r, Ay r = N := by
  by_cases hlow : N < 9007199254740992
  · exact ⟨N, Ex hlow⟩
  · have hM0 : 0 < M := by rcases Nat.eq_zero_or_pos M with h | h; · rw [h] at hN; omega
                           · exact h
    obtain ⟨a1, a2⟩ := Db M hM0
    have hl : M.log2 ≤ 52 := by have := (Nat.log2_lt (n := M) (k := 53) (by omega)).2 hM; omega
    obtain ⟨c, hc⟩ : ∃ c, c + M.log2 = 52 := ⟨52 - M.log2, by omega⟩
    have b1 : 4503599627370496 ≤ M * 2 ^ c := by
      have : 2 ^ M.log2 * 2 ^ c ≤ M * 2 ^ c := Nat.mul_le_mul_right _ a1
      rw [← Nat.pow_add, show M.log2 + c = 52 by omega] at this
      exact this
    have b2 : M * 2 ^ c < 9007199254740992 := by
      have : M * 2 ^ c < 2 ^ (M.log2 + 1) * 2 ^ c := Nat.mul_lt_mul_of_pos_right a2 (Nat.two_pow_pos c)
      rw [← Nat.pow_add, show M.log2 + 1 + c = 53 by omega] at this
      exact this
    have hjc : c ≤ j := by
      rcases Nat.lt_or_ge j c with h | h
      · have h1 : M * 2 ^ j ≤ M * 2 ^ c := Nat.mul_le_mul_left _ (Nat.pow_le_pow_right (by omega) (by omega))
        omega
      · exact h
    obtain ⟨d, rfl⟩ : ∃ d, j = c + d := ⟨j - c, by omega⟩
    exact ⟨d * 4503599627370496 + M * 2 ^ c, by rw [Ba _ _ b1 b2, hN, Nat.pow_add, Nat.mul_assoc]⟩
theorem U1 {w : Nat} (h : w < 9218868437227405312) : ∃ m e, Ieee.double.read w = .number false m e ∧ -1074 ≤ e ∧ Ay w = m * 2 ^ (e + 1074).toNat := by
 have h1 : Cm w = w := Nat.mod_eq_of_lt (by omega)
 have h2 : Eg w = false := by unfold Eg; rw [Nat.div_eq_of_lt (by omega)]; rfl
 obtain ⟨m, e, a, b, c⟩ := Gz (w := w) (by rw [h1]; exact h)
 rw [h2] at a
 rw [h1] at c
 exact ⟨m, e, a, b, c⟩
theorem Ln {x y r : Nat} (hx : x < 9218868437227405312) (hy : y < 9218868437227405312) (hr : r < 9218868437227405312) {K : Nat} (hK : K = 1074) (h : Ay x * Ay y = Ay r * 2 ^ K) : Ieee.double.mul x y = some r := by
 obtain ⟨m, i, a1, a2, a3⟩ := U1 hx
 obtain ⟨n, j, b1, b2, b3⟩ := U1 hy
 unfold Ieee.Format.mul
 rw [a1, b1]
 simp only [Ieee.Datum.product, Option.map_some, Bool.xor_self]
 refine congrArg some ?_
 refine Tw false (a := (i + 1074).toNat + (j + 1074).toNat) (b := K) hr (by omega) ?_
 rw [← h, a3, b3, Nat.pow_add]
 grind

open Go.RowKit
theorem Aah {N : Nat} (h : N < 9007199254740992) {K : Nat} (hK : K = 1074) : Ay (fl N) = N * 2 ^ K ∧ fl N < 9218868437227405312 := by
 obtain ⟨r, hr⟩ := Afm (N := N * 2 ^ K) rfl h
 have hlt : r < 9218868437227405312 := by
  obtain ⟨J, hJ⟩ : ∃ J : Nat, J = 2046 := ⟨_, rfl⟩
  have e1 := Ba 4503599627370496 J (by omega) (by omega)
  rw [show J * 4503599627370496 + 4503599627370496 = 9218868437227405312 by rw [hJ]] at e1
  refine Ia.1 ?_
  rw [hr, e1]
  have h1 : N * 2 ^ K < 9007199254740992 * 2 ^ K := Nat.mul_lt_mul_of_pos_right h (Nat.two_pow_pos K)
  have h2 : 9007199254740992 * 2 ^ K ≤ 4503599627370496 * 2 ^ J := by
   rw [show (9007199254740992 : Nat) = 4503599627370496 * 2 by rfl, Nat.mul_assoc]
   refine Nat.mul_le_mul_left _ ?_
   rw [show 2 * 2 ^ K = 2 ^ (K + 1) by rw [Nat.pow_succ, Nat.mul_comm]]
   exact Nat.pow_le_pow_right (by omega) (by omega)
  omega
 have := Tw false (r := r) (m := N) (a := K) (b := 0) (e := 0) hlt (by omega) (by rw [hr, Nat.pow_zero, Nat.mul_one])
 rw [J8, this]
 exact ⟨hr, hlt⟩
theorem Ajo {n d C : Nat} (h : n ≤ C * 2 ^ d) : evn n d ≤ C := by
 unfold evn
 have hd := Nat.two_pow_pos d
 have e1 := Nat.div_add_mod n (2 ^ d)
 have hq : n / 2 ^ d ≤ C := Nat.div_le_of_le_mul (by rw [Nat.mul_comm]; exact h)
 rcases Nat.eq_or_lt_of_le hq with h1 | h1
 ·have h2 : n % 2 ^ d = 0 := by
   rw [h1, Nat.mul_comm] at e1
   omega
  rw [h2, decide_eq_false (by omega), decide_eq_false (by omega)]
  simp only [Bool.false_and, Bool.or_self, Bool.toNat_false]
  omega
 ·have := Bool.toNat_le (decide (2 ^ d < 2 * (n % 2 ^ d)) || (decide (2 ^ d = 2 * (n % 2 ^ d)) && decide (n / 2 ^ d % 2 = 1)))
  omega
theorem Ajg {n d C : Nat} (h : C * 2 ^ d ≤ n) : C ≤ evn n d := by
 unfold evn
 have h1 : C ≤ n / 2 ^ d := (Nat.le_div_iff_mul_le (Nat.two_pow_pos d)).2 h
 omega
theorem Sp {n d : Nat} (h : 2 * n < 2 ^ d) : evn n d = 0 := by
 have h1 : n < 2 ^ d := by omega
 unfold evn
 rw [Nat.div_eq_of_lt h1, Nat.mod_eq_of_lt h1, decide_eq_false (by omega), decide_eq_false (by omega)]
 rfl
theorem Aii (n d : Nat) (hn : 0 < n) : Ieee.Toward.even.cut false n d = evn n d := by
 rcases Nat.lt_or_ge (n.log2 + 2) d with h | h
 ·have h1 := (Db n hn).2
  have h2 : Ieee.Toward.even.cut false n d = evn n (n.log2 + 2) := by
   rw [← Ew n (n.log2 + 2) (Nat.le_refl _)]
   unfold Ieee.Toward.cut
   rw [Nat.min_eq_right (by omega), Nat.min_self]
  have h3 : 2 * n < 2 ^ (n.log2 + 2) := by rw [show n.log2 + 2 = n.log2 + 1 + 1 by omega, Nat.pow_succ]; omega
  rw [h2, Sp h3, Sp (Nat.lt_of_lt_of_le h3 (Nat.pow_le_pow_right (by omega) (by omega)))]
 ·exact Ew n d h
theorem Abr (R : Nat) : ∃ M d, R = d * 4503599627370496 + M ∧ Ay R = M * 2 ^ d ∧ M < 9007199254740992 ∧ (d = 0 ∨ 4503599627370496 ≤ M) := by
 rcases Nat.lt_or_ge R 4503599627370496 with h | h
 ·exact ⟨R, 0, by omega, by rw [Ex (by omega), Nat.pow_zero, Nat.mul_one], by omega, Or.inl rfl⟩
 ·obtain ⟨M, d, a, b, c, e⟩ := El h
  exact ⟨M, d, c, e, b, Or.inr a⟩
def Cu (u w : Nat) : Nat := u / w + (decide (w < 2 * (u % w)) || (decide (w = 2 * (u % w)) && decide (u / w % 2 = 1))).toNat
theorem No (n d : Nat) : Cu n (2 ^ d) = evn n d := rfl
theorem By {u w k : Nat} (hk : 0 < k) : Cu (u * k) (w * k) = Cu u w := by
 unfold Cu
 rw [Nat.mul_div_mul_right _ _ hk, Nat.mul_mod_mul_right]
 have h1 : (w * k < 2 * (u % w * k)) ↔ (w < 2 * (u % w)) := by
  rw [← Nat.mul_assoc]
  exact Nat.mul_lt_mul_right hk
 have h2 : (w * k = 2 * (u % w * k)) ↔ (w = 2 * (u % w)) := by
  rw [← Nat.mul_assoc]
  exact ⟨fun h => Nat.eq_of_mul_eq_mul_right hk h, fun h => by rw [← h]⟩
 simp only [h1, h2]
theorem Y6 {u w C : Nat} (hw : 0 < w) (h : u ≤ C * w) : Cu u w ≤ C := by
 unfold Cu
 have e1 := Nat.div_add_mod u w
 have hq : u / w ≤ C := Nat.div_le_of_le_mul (by rw [Nat.mul_comm]; exact h)
 rcases Nat.eq_or_lt_of_le hq with h1 | h1
 ·have h2 : u % w = 0 := by rw [h1, Nat.mul_comm] at e1; omega
  rw [h2, decide_eq_false (by omega), decide_eq_false (by omega)]
  simp only [Bool.false_and, Bool.or_self, Bool.toNat_false]
  omega
 ·have := Bool.toNat_le (decide (w < 2 * (u % w)) || (decide (w = 2 * (u % w)) && decide (u / w % 2 = 1)))
  omega
theorem Ms {u w C : Nat} (hw : 0 < w) (h : C * w ≤ u) : C ≤ Cu u w := by
 unfold Cu
 have h1 : C ≤ u / w := (Nat.le_div_iff_mul_le hw).2 h
 omega
theorem P8 (w : Nat) : Cu 0 w = 0 := by
 unfold Cu
 rw [Nat.zero_div, Nat.zero_mod, decide_eq_false (by omega), show decide (0 % 2 = 1) = false by decide, Bool.and_false]
 rfl
def Bb (u v : Nat) : Nat := (u / v).log2 - 52
def rnd (u v : Nat) : Nat := min (Bb u v * 4503599627370496 + Cu u (2 ^ Bb u v * v)) 9218868437227405312
theorem Sh {u v k : Nat} (hk : 0 < k) : Bb (u * k) (v * k) = Bb u v := by
 unfold Bb
 rw [Nat.mul_div_mul_right _ _ hk]
theorem Qa {u v k : Nat} (hk : 0 < k) : rnd (u * k) (v * k) = rnd u v := by
 unfold rnd
 rw [Sh hk, ← Nat.mul_assoc, By hk]
theorem Ej {u v D : Nat} (hv : 0 < v) (h1 : D = 0 ∨ 4503599627370496 * 2 ^ D * v ≤ u) (h2 : u < 9007199254740992 * 2 ^ D * v) : Bb u v = D := by
 unfold Bb
 have hlt : u / v < 9007199254740992 * 2 ^ D := (Nat.div_lt_iff_lt_mul hv).2 h2
 have e1 : 9007199254740992 * 2 ^ D = 2 ^ (D + 53) := by rw [Nat.pow_add, Nat.mul_comm]
 have e2 : 4503599627370496 * 2 ^ D = 2 ^ (D + 52) := by rw [Nat.pow_add, Nat.mul_comm]
 rw [e1] at hlt
 rcases Nat.eq_zero_or_pos (u / v) with h0 | h0
 ·rw [h0]
  rcases h1 with h1 | h1
  ·rw [h1]; rfl
  ·have := (Nat.le_div_iff_mul_le hv).2 h1
   rw [h0] at this
   have := Nat.two_pow_pos D
   omega
 ·have hl : (u / v).log2 < D + 53 := (Nat.log2_lt (by omega)).2 hlt
  rcases h1 with h1 | h1
  ·omega
  ·have h3 := (Nat.le_div_iff_mul_le hv).2 h1
   rw [e2] at h3
   have := (Nat.le_log2 (by omega)).2 h3
   omega
theorem Adr (s : Bool) {m a b : Nat} {e : Int} (hab : (a : Int) - b = e + 1074) : Ieee.double.nearest s m e = Ieee.double.word s (rnd (m * 2 ^ a) (2 ^ b)) := by
 have e2 : Ieee.double.binade = 4503599627370496 := by decide
 have e3 : Ieee.double.infRung = 9218868437227405312 := by decide
 have e4 : Ieee.double.leastPlace = -1074 := by decide
 have e5 : Ieee.double.fractionBits = 52 := rfl
 have hb := Nat.two_pow_pos b
 unfold Ieee.Format.nearest
 rcases Nat.eq_zero_or_pos m with h0 | h0
 ·subst h0
  rw [if_pos rfl]
  have : rnd (0 * 2 ^ a) (2 ^ b) = 0 := by
   unfold rnd
   rw [Nat.zero_mul, P8]
   unfold Bb
   rw [Nat.zero_div]
   rfl
  rw [this]
 ·rw [if_neg (by omega), e2, e3, e4, e5]
  obtain ⟨L, hL⟩ : ∃ L, m.log2 = L := ⟨_, rfl⟩
  obtain ⟨a1, a2⟩ := Db m h0
  rw [hL] at a1 a2 ⊢
  obtain ⟨p, hp⟩ : ∃ p, max (e + (L : Int) - (52 : Nat)) (-1074) = p := ⟨_, rfl⟩
  rw [hp]
  dsimp only
  rw [Rh]
  obtain ⟨D, hD⟩ : ∃ D, (p - -1074).toNat = D := ⟨_, rfl⟩
  rw [hD]
  -- the place
  have hpl : Bb (m * 2 ^ a) (2 ^ b) = D := by
   refine Ej hb ?_ ?_
   ·rcases Nat.eq_zero_or_pos D with h1 | h1
    ·exact Or.inl h1
    ·refine Or.inr ?_
     rw [show (4503599627370496 : Nat) = 2 ^ 52 from rfl, ← Nat.pow_add, ← Nat.pow_add]
     refine Nat.le_trans ?_ (Nat.mul_le_mul_right _ a1)
     rw [← Nat.pow_add]
     exact Nat.pow_le_pow_right (by omega) (by omega)
   ·refine Nat.lt_of_lt_of_le (Nat.mul_lt_mul_of_pos_right a2 (Nat.two_pow_pos a)) ?_
    rw [show (9007199254740992 : Nat) = 2 ^ 53 from rfl, ← Nat.pow_add, ← Nat.pow_add, ← Nat.pow_add]
    exact Nat.pow_le_pow_right (by omega) (by omega)
  unfold rnd
  rw [hpl]
  have hc : Ieee.Toward.even.cut false (m <<< (e - p).toNat) (p - e).toNat = Cu (m * 2 ^ a) (2 ^ D * 2 ^ b) := by
   rw [Aii _ _ (by rw [Nat.shiftLeft_eq]; exact Nat.mul_pos h0 (Nat.two_pow_pos _)), Nat.shiftLeft_eq, ← No]
   obtain ⟨x, hx⟩ : ∃ x : Nat, (e - p).toNat = x := ⟨_, rfl⟩
   obtain ⟨y, hy⟩ : ∃ y : Nat, (p - e).toNat = y := ⟨_, rfl⟩
   rw [hx, hy, ← Nat.pow_add]
   -- a + y = D + b + x: scale both sides
   rcases Nat.le_total a x with h | h
   ·obtain ⟨k, rfl⟩ : ∃ k, x = a + k := ⟨x - a, by omega⟩
    have : y = D + b + k := by omega
    rw [this, Nat.pow_add 2 a k, Nat.pow_add 2 (D + b) k, ← Nat.mul_assoc, By (Nat.two_pow_pos k)]
   ·obtain ⟨k, rfl⟩ : ∃ k, a = x + k := ⟨a - x, by omega⟩
    have : D + b = y + k := by omega
    rw [this, Nat.pow_add 2 x k, Nat.pow_add 2 y k, ← Nat.mul_assoc, By (Nat.two_pow_pos k)]
  rw [hc]
theorem Hb {N n q t d : Nat} (hN : N = q * n + t) (h0 : 0 < t) (ht : t < n) (hd : 0 < d) : Cu N (n * 2 ^ d) = q / 2 ^ d + (decide (2 ^ d ≤ 2 * (q % 2 ^ d))).toNat := by
 obtain ⟨c, rfl⟩ : ∃ c, d = c + 1 := ⟨d - 1, by omega⟩
 have hP : 2 ^ (c + 1) = 2 * 2 ^ c := by rw [Nat.pow_succ, Nat.mul_comm]
 have hc := Nat.two_pow_pos c
 have e1 := Nat.div_add_mod q (2 ^ (c + 1))
 have e2 := Nat.mod_lt q (Nat.two_pow_pos (c + 1))
 obtain ⟨Q, hQ⟩ : ∃ Q, q / 2 ^ (c + 1) = Q := ⟨_, rfl⟩
 obtain ⟨r, hr⟩ : ∃ r, q % 2 ^ (c + 1) = r := ⟨_, rfl⟩
 rw [hQ, hr] at e1
 rw [hr] at e2
 rw [hQ, hr]
 have hlt : r * n + t < n * 2 ^ (c + 1) := by
  have : (r + 1) * n ≤ 2 ^ (c + 1) * n := Nat.mul_le_mul_right _ e2
  rw [Nat.add_mul, Nat.one_mul, Nat.mul_comm (2 ^ (c + 1))] at this
  omega
 have hNN : N = n * 2 ^ (c + 1) * Q + (r * n + t) := by rw [hN, ← e1]; grind
 have hdiv : N / (n * 2 ^ (c + 1)) = Q := by
  rw [hNN, Nat.mul_add_div (by omega), Nat.div_eq_of_lt hlt, Nat.add_zero]
 have hmod : N % (n * 2 ^ (c + 1)) = r * n + t := by
  rw [hNN, Nat.mul_add_mod, Nat.mod_eq_of_lt hlt]
 unfold Cu
 rw [hdiv, hmod, hP]
 have k1 : n * (2 * 2 ^ c) < 2 * (r * n + t) ↔ 2 ^ c ≤ r := by
  constructor
  ·intro h
   rcases Nat.lt_or_ge r (2 ^ c) with h1 | h1
   ·exfalso
    have : (r + 1) * n ≤ 2 ^ c * n := Nat.mul_le_mul_right _ h1
    rw [Nat.add_mul, Nat.one_mul] at this
    have e3 : n * (2 * 2 ^ c) = 2 * (2 ^ c * n) := by grind
    omega
   ·exact h1
  ·intro h
   have : 2 ^ c * n ≤ r * n := Nat.mul_le_mul_right _ h
   have e3 : n * (2 * 2 ^ c) = 2 * (2 ^ c * n) := by grind
   omega
 have k2 : ¬ n * (2 * 2 ^ c) = 2 * (r * n + t) := by
  intro h
  have e3 : n * (2 * 2 ^ c) = 2 * (2 ^ c * n) := by grind
  have h4 : 2 ^ c * n = r * n + t := by omega
  rcases Nat.lt_or_ge r (2 ^ c) with h1 | h1
  ·have : (r + 1) * n ≤ 2 ^ c * n := Nat.mul_le_mul_right _ h1
   rw [Nat.add_mul, Nat.one_mul] at this
   omega
  ·have : 2 ^ c * n ≤ r * n := Nat.mul_le_mul_right _ h1
   omega
 rw [decide_eq_false k2, Bool.false_and, Bool.or_false]
 congr 2
 exact decide_eq_decide.2 (k1.trans (by omega))
theorem M3 {q d : Nat} (hd : 0 < d) : Cu (2 * q + 1) (2 * 2 ^ d) = q / 2 ^ d + (decide (2 ^ d ≤ 2 * (q % 2 ^ d))).toNat := by
 have h := Hb (N := 2 * q + 1) (n := 2) (q := q) (t := 1) (d := d) (by omega) (by omega) (by omega) hd
 exact h
theorem Ahm {q d : Nat} (hd : 1 < d) : Cu (q ||| 1) (2 ^ d) = q / 2 ^ d + (decide (2 ^ d ≤ 2 * (q % 2 ^ d))).toNat := by
 have ho : q ||| 1 = 2 * (q / 2) + 1 := by
  have h1 : q ||| 1 = (q / 2) * 2 + 1 := by
   have h2 : (q ||| 1) / 2 = q / 2 := by rw [Nat.or_div_two]; simp
   have h3 : (q ||| 1) % 2 = 1 := by rw [Nat.or_mod_two_eq_one]; simp
   omega
  omega
 obtain ⟨c, rfl⟩ : ∃ c, d = c + 1 := ⟨d - 1, by omega⟩
 obtain ⟨f, rfl⟩ : ∃ f, c = f + 1 := ⟨c - 1, by omega⟩
 have hP : 2 ^ (f + 1 + 1) = 2 * 2 ^ (f + 1) := by rw [Nat.pow_succ, Nat.mul_comm]
 rw [ho, hP, M3 (by omega)]
 have hP2 : 2 ^ (f + 1) = 2 * 2 ^ f := by rw [Nat.pow_succ, Nat.mul_comm]
 have hf := Nat.two_pow_pos f
 have e1 : q / 2 / 2 ^ (f + 1) = q / (2 * 2 ^ (f + 1)) := by rw [Nat.div_div_eq_div_mul]
 have e2 : q % (2 * 2 ^ (f + 1)) = q % 2 + 2 * (q / 2 % 2 ^ (f + 1)) := Nat.mod_mul
 rw [e1, e2]
 congr 2
 refine decide_eq_decide.2 ?_
 have := Nat.mod_lt q (show 0 < 2 by omega)
 rw [hP2]
 generalize q / 2 % (2 * 2 ^ f) = r
 omega

theorem E0 {u v D : Nat} (hv : 0 < v) (h : Bb u v = D) : (D = 0 ∨ 4503599627370496 * 2 ^ D * v ≤ u) ∧ u < 9007199254740992 * 2 ^ D * v := by
 unfold Bb at h
 rcases Nat.eq_zero_or_pos (u / v) with h0 | h0
 ·rw [h0, show Nat.log2 0 = 0 by decide] at h
  have hD : D = 0 := by omega
  refine ⟨Or.inl hD, ?_⟩
  have h1 : u < v := by
   rcases Nat.lt_or_ge u v with h2 | h2
   ·exact h2
   ·have := (Nat.le_div_iff_mul_le hv).2 (show 1 * v ≤ u by omega)
    omega
  rw [hD, Nat.pow_zero, Nat.mul_one]
  omega
 ·obtain ⟨a1, a2⟩ := Db _ h0
  constructor
  ·rcases Nat.eq_zero_or_pos D with h1 | h1
   ·exact Or.inl h1
   ·refine Or.inr ((Nat.le_div_iff_mul_le hv).1 ?_)
    rw [show (4503599627370496 : Nat) = 2 ^ 52 from rfl, ← Nat.pow_add, show 52 + D = (u / v).log2 by omega]
    exact a1
  ·refine (Nat.div_lt_iff_lt_mul hv).1 (Nat.lt_of_lt_of_le a2 ?_)
   rw [show (9007199254740992 : Nat) = 2 ^ 53 from rfl, ← Nat.pow_add]
   exact Nat.pow_le_pow_right (by omega) (by omega)
theorem Zb {N n q t C : Nat} (hN : N = q * n + t) (ht : t < n) : C * n ≤ N ↔ C ≤ q := by
 constructor
 ·intro h
  rcases Nat.lt_or_ge q C with h1 | h1
  ·have : (q + 1) * n ≤ C * n := Nat.mul_le_mul_right _ h1
   rw [Nat.add_mul, Nat.one_mul] at this
   omega
  ·exact h1
 ·intro h
  have : C * n ≤ q * n := Nat.mul_le_mul_right _ h
  omega
theorem Uf {N n q t s A B D d : Nat} (hn : 0 < n) (hN : N = q * n + t) (ht : t < n) (hs : s = if t = 0 then 0 else 1) (hD : Bb (N * 2 ^ A) (2 ^ B * n) = D) (hd : D + B = A + d) (hd0 : 0 < d) :
  rnd ((2 * q + s) * 2 ^ A) (2 ^ (B + 1)) = rnd (N * 2 ^ A) (2 ^ B * n) ∧ (1 < d → rnd ((q ||| s) * 2 ^ A) (2 ^ B) = rnd (N * 2 ^ A) (2 ^ B * n)) := by
 have hA := Nat.two_pow_pos A
 have hB := Nat.two_pow_pos B
 have hDB : 2 ^ D * 2 ^ B = 2 ^ d * 2 ^ A := by rw [← Nat.pow_add, ← Nat.pow_add, hd, Nat.add_comm]
 obtain ⟨s1, s2⟩ := E0 (Nat.mul_pos hB hn) hD
 have hs1 : s ≤ 1 := by rw [hs]; split <;> omega
 -- where the quotient lies
 have cN : ∀ C, C * 2 ^ D * (2 ^ B * n) = C * 2 ^ d * n * 2 ^ A := by
  intro C
  have : C * 2 ^ D * (2 ^ B * n) = C * n * (2 ^ D * 2 ^ B) := by grind
  rw [this, hDB]; grind
 rw [cN] at s1 s2
 have q1 : D = 0 ∨ 4503599627370496 * 2 ^ d ≤ q := by
  rcases s1 with h | h
  ·exact Or.inl h
  ·exact Or.inr ((Zb hN ht).1 (Nat.le_of_mul_le_mul_right h hA))
 have q2 : q < 9007199254740992 * 2 ^ d := by
  have h1 := Nat.lt_of_mul_lt_mul_right s2
  rcases Nat.lt_or_ge q (9007199254740992 * 2 ^ d) with h | h
  ·exact h
  ·have := (Zb hN ht).2 h
   omega
 have hR : rnd (N * 2 ^ A) (2 ^ B * n) = min (D * 4503599627370496 + Cu N (n * 2 ^ d)) 9218868437227405312 := by
  unfold rnd
  rw [hD]
  have : 2 ^ D * (2 ^ B * n) = n * 2 ^ d * 2 ^ A := by
   have e : 2 ^ D * (2 ^ B * n) = 2 ^ D * 2 ^ B * n := by grind
   rw [e, hDB]; grind
  rw [this, By hA]
 constructor
 ·have hp : Bb ((2 * q + s) * 2 ^ A) (2 ^ (B + 1)) = D := by
   refine Ej (Nat.two_pow_pos _) ?_ ?_
   ·rcases q1 with h | h
    ·exact Or.inl h
    ·refine Or.inr ?_
     have e : 4503599627370496 * 2 ^ D * 2 ^ (B + 1) = 2 * (4503599627370496 * 2 ^ d) * 2 ^ A := by
      rw [Nat.pow_succ]
      have : 4503599627370496 * 2 ^ D * (2 ^ B * 2) = 2 * 4503599627370496 * (2 ^ D * 2 ^ B) := by grind
      rw [this, hDB]; grind
     rw [e]
     exact Nat.mul_le_mul_right _ (by omega)
   ·have e : 9007199254740992 * 2 ^ D * 2 ^ (B + 1) = 2 * (9007199254740992 * 2 ^ d) * 2 ^ A := by
     rw [Nat.pow_succ]
     have : 9007199254740992 * 2 ^ D * (2 ^ B * 2) = 2 * 9007199254740992 * (2 ^ D * 2 ^ B) := by grind
     rw [this, hDB]; grind
    rw [e]
    exact Nat.mul_lt_mul_of_pos_right (by omega) hA
  rw [hR]
  unfold rnd
  rw [hp]
  have e : 2 ^ D * 2 ^ (B + 1) = 2 * 2 ^ d * 2 ^ A := by
   rw [Nat.pow_succ]
   have : 2 ^ D * (2 ^ B * 2) = 2 * (2 ^ D * 2 ^ B) := by grind
   rw [this, hDB]; grind
  rw [e, By hA]
  congr 2
  by_cases h0 : t = 0
  ·rw [hs, if_pos h0, Nat.add_zero, hN, h0, Nat.add_zero, Nat.mul_comm n, By hn, Nat.mul_comm 2 q, Nat.mul_comm 2 (2 ^ d), By (by omega)]
  ·rw [hs, if_neg h0, M3 hd0, Hb hN (by omega) ht hd0]
 ·intro hd1
  have hor : q ≤ q ||| s ∧ q ||| s ≤ q + 1 := by
   rcases Nat.eq_zero_or_pos s with h | h
   ·rw [h, Nat.or_zero]; omega
   ·have e1 : s = 1 := by omega
    rw [e1]
    have h2 : (q ||| 1) / 2 = q / 2 := by rw [Nat.or_div_two]; simp
    have h3 : (q ||| 1) % 2 = 1 := by rw [Nat.or_mod_two_eq_one]; simp
    omega
  have hup : q ||| s < 9007199254740992 * 2 ^ d := by
   rcases Nat.eq_zero_or_pos s with h | h
   ·rw [h, Nat.or_zero]; exact q2
   ·have e1 : s = 1 := by omega
    rw [e1]
    have h2 : (q ||| 1) / 2 = q / 2 := by rw [Nat.or_div_two]; simp
    obtain ⟨f, rfl⟩ : ∃ f, d = f + 1 := ⟨d - 1, by omega⟩
    rw [Nat.pow_succ] at q2 ⊢
    omega
  have hp : Bb ((q ||| s) * 2 ^ A) (2 ^ B) = D := by
   have e : ∀ C, C * 2 ^ D * 2 ^ B = C * 2 ^ d * 2 ^ A := by intro C; rw [Nat.mul_assoc, hDB, Nat.mul_assoc]
   refine Ej hB ?_ ?_
   ·rcases q1 with h | h
    ·exact Or.inl h
    ·exact Or.inr (by rw [e]; exact Nat.mul_le_mul_right _ (by omega))
   ·rw [e]; exact Nat.mul_lt_mul_of_pos_right hup hA
  rw [hR]
  unfold rnd
  rw [hp, hDB, By hA]
  congr 2
  by_cases h0 : t = 0
  ·rw [hs, if_pos h0, Nat.or_zero, hN, h0, Nat.add_zero, Nat.mul_comm n, By hn]
  ·rw [hs, if_neg h0, Ahm hd1, Hb hN (by omega) ht hd0]

theorem Pz {u W a : Nat} (h1 : a * W < 2 * u) (h2 : 2 * u < (a + 1) * W) : Cu u W = a / 2 + a % 2 := by
 have hW : 0 < W := by
  rcases Nat.eq_zero_or_pos W with h | h
  ·rw [h, Nat.mul_zero] at h2; omega
  ·exact h
 have e1 := Nat.div_add_mod u W
 have e2 := Nat.mod_lt u hW
 obtain ⟨q, hq⟩ : ∃ q, a / 2 = q := ⟨_, rfl⟩
 have key : u / W = q := by
  have l1 : q ≤ u / W := by
   rw [Nat.le_div_iff_mul_le hW]
   have : 2 * q * W ≤ a * W := Nat.mul_le_mul_right _ (by omega)
   have e : 2 * q * W = 2 * (q * W) := Nat.mul_assoc _ _ _
   omega
  have l2 : u / W < q + 1 := by
   rw [Nat.div_lt_iff_lt_mul hW]
   have : (a + 1) * W ≤ 2 * (q + 1) * W := Nat.mul_le_mul_right _ (by omega)
   have e : 2 * (q + 1) * W = 2 * ((q + 1) * W) := Nat.mul_assoc _ _ _
   omega
  omega
 unfold Cu
 rw [key, hq]
 rw [key] at e1
 generalize u % W = r at *
 rcases Nat.mod_two_eq_zero_or_one a with hp | hp
 ·have ha : a = 2 * q := by omega
  rw [ha, Nat.add_mul, Nat.one_mul, Nat.mul_assoc] at h2
  rw [Nat.mul_comm W q] at e1
  rw [hp, decide_eq_false (by omega), decide_eq_false (by omega)]
  rfl
 ·have ha : a = 2 * q + 1 := by omega
  rw [ha, Nat.add_mul, Nat.one_mul, Nat.mul_assoc] at h1
  rw [Nat.mul_comm W q] at e1
  rw [hp, decide_eq_true (by omega)]
  rfl
def Aj0 (u v u' v' : Nat) : Prop := ∀ c D, c ≤ 18014398509481984 → 2 * u ≤ c * 2 ^ D * v → c * 2 ^ D * v' ≤ 2 * u' → False
theorem Ae3 {u v u' v' : Nat} (hv : 0 < v) (hv' : 0 < v') (hle : u * v' ≤ u' * v) (H : Aj0 u v u' v') : rnd u v = rnd u' v' := by
 obtain ⟨D, hD⟩ : ∃ D, Bb u v = D := ⟨_, rfl⟩
 obtain ⟨s1, s2⟩ := E0 hv hD
 have hp := Nat.two_pow_pos D
 -- the place is the same
 have hD' : Bb u' v' = D := by
  refine Ej hv' ?_ ?_
  ·rcases s1 with h | h
   ·exact Or.inl h
   ·refine Or.inr (Nat.le_of_mul_le_mul_right (c := v) ?_ hv)
    have a1 : 4503599627370496 * 2 ^ D * v * v' ≤ u * v' := Nat.mul_le_mul_right _ h
    have e : 4503599627370496 * 2 ^ D * v' * v = 4503599627370496 * 2 ^ D * v * v' := by grind
    omega
  ·rcases Nat.lt_or_ge u' (9007199254740992 * 2 ^ D * v') with h | h
   ·exact h
   ·exfalso
    rw [Nat.mul_assoc] at s2 h
    refine H 18014398509481984 D (Nat.le_refl _) ?_ ?_
    ·rw [Nat.mul_assoc]
     generalize 2 ^ D * v = X at *
     omega
    ·rw [Nat.mul_assoc]
     generalize 2 ^ D * v' = X at *
     omega
 -- and so are the halves
 obtain ⟨a, ha⟩ : ∃ a, 2 * u / (2 ^ D * v) = a := ⟨_, rfl⟩
 have hW : 0 < 2 ^ D * v := Nat.mul_pos hp hv
 have m1 := Nat.div_add_mod (2 * u) (2 ^ D * v)
 have m2 := Nat.mod_lt (2 * u) hW
 rw [ha] at m1
 have b1 : a * (2 ^ D * v) ≤ 2 * u := by rw [Nat.mul_comm a]; omega
 have b2 : 2 * u < (a + 1) * (2 ^ D * v) := by rw [Nat.add_mul, Nat.one_mul, Nat.mul_comm a]; omega
 have ha54 : a + 1 ≤ 18014398509481984 := by
  have h3 : a * (2 ^ D * v) < 18014398509481984 * (2 ^ D * v) := by
   have e : 18014398509481984 * (2 ^ D * v) = 2 * (9007199254740992 * 2 ^ D * v) := by grind
   omega
  have := Nat.lt_of_mul_lt_mul_right h3
  omega
 have sc : ∀ c, c * (2 ^ D * v) * v' = c * (2 ^ D * v') * v := by intro c; grind
 have up : ∀ c, c * (2 ^ D * v) ≤ 2 * u → c * (2 ^ D * v') ≤ 2 * u' := by
  intro c hc
  refine Nat.le_of_mul_le_mul_right (c := v) ?_ hv
  rw [← sc]
  have a1 : c * (2 ^ D * v) * v' ≤ 2 * u * v' := Nat.mul_le_mul_right _ hc
  have e1 : 2 * u * v' = 2 * (u * v') := Nat.mul_assoc _ _ _
  have e2 : 2 * u' * v = 2 * (u' * v) := Nat.mul_assoc _ _ _
  omega
 have c1 : a * (2 ^ D * v) < 2 * u := by
  rcases Nat.eq_or_lt_of_le b1 with h | h
  ·exfalso
   exact H a D (by omega) (by rw [Nat.mul_assoc, h]; exact Nat.le_refl _) (by rw [Nat.mul_assoc]; exact up a (Nat.le_of_eq h))
  ·exact h
 have c3 : 2 * u' < (a + 1) * (2 ^ D * v') := by
  rcases Nat.lt_or_ge (2 * u') ((a + 1) * (2 ^ D * v')) with h | h
  ·exact h
  ·exfalso
   exact H (a + 1) D ha54 (by rw [Nat.mul_assoc]; exact Nat.le_of_lt b2) (by rw [Nat.mul_assoc]; exact h)
 have c2 : a * (2 ^ D * v') < 2 * u' := by
  refine Nat.lt_of_mul_lt_mul_right (a := v) ?_
  rw [← sc]
  have a1 : a * (2 ^ D * v) * v' < 2 * u * v' := Nat.mul_lt_mul_of_pos_right c1 hv'
  have e1 : 2 * u * v' = 2 * (u * v') := Nat.mul_assoc _ _ _
  have e2 : 2 * u' * v = 2 * (u' * v) := Nat.mul_assoc _ _ _
  omega
 unfold rnd
 rw [hD, hD', Pz c1 b2, Pz c2 c3]
set_option exponentiation.threshold 2000 in
theorem Vw : ∀ K T : Nat, K = 1075 → T = 768 → 18014398509481984 * 5 ^ K < 10 ^ T := by
 intro K T hK hT
 subst hK
 subst hT
 decide +kernel
theorem Afh {c D K T : Nat} (hK : K = 1075) (hT : T = 768) (hc : c ≤ 18014398509481984) : ∃ C f : Nat, c * 2 ^ D * 10 ^ f = C * 2 ^ K ∧ (D < K → C < 10 ^ T) ∧ (K ≤ D → f = 0) := by
 rcases Nat.lt_or_ge D K with h | h
 ·obtain ⟨j, hj⟩ : ∃ j, K = D + j := ⟨K - D, by omega⟩
  refine ⟨c * 5 ^ j, j, ?_, fun _ => ?_, fun h2 => absurd h (by omega)⟩
  ·rw [hj, Nat.pow_add, show (10 : Nat) = 5 * 2 from rfl, Nat.mul_pow]
   grind
  ·refine Nat.lt_of_le_of_lt (Nat.le_trans (Nat.mul_le_mul_right _ hc) (Nat.mul_le_mul_left _ (Nat.pow_le_pow_right (by omega) (show j ≤ K by omega)))) (Vw K T hK hT)
 ·obtain ⟨j, hj⟩ : ∃ j, D = K + j := ⟨D - K, by omega⟩
  refine ⟨c * 2 ^ j, 0, ?_, fun h2 => absurd h (by omega), fun _ => rfl⟩
  rw [hj, Nat.pow_add, Nat.pow_zero, Nat.mul_one]
  grind
theorem Af8 {p s t c D K T : Nat} (hK : K = 1075) (hT : T = 768) (hp : 10 ^ T ≤ p) (hc : c ≤ 18014398509481984) (h1 : p * 10 ^ s * 2 ^ K < c * 2 ^ D * 10 ^ t) (h2 : c * 2 ^ D * 10 ^ t < (p + 1) * 10 ^ s * 2 ^ K) (htop : (p + 1) * 10 ^ s ≤ 10 ^ T * 10 ^ t) : False := by
 obtain ⟨C, f, e1, e2, e3⟩ := Afh (D := D) hK hT hc
 have hTt := Nat.pow_pos (n := t) (show 0 < 10 by omega)
 have hF := Nat.pow_pos (n := f) (show 0 < 10 by omega)
 have hS := Nat.pow_pos (n := s) (show 0 < 10 by omega)
 have hU := Nat.two_pow_pos K
 -- in terms of C: p * 10^s * 10^f < C * 10^t < (p+1) * 10^s * 10^f
 have g1 : p * 10 ^ s * 10 ^ f < C * 10 ^ t := by
  refine Nat.lt_of_mul_lt_mul_right (a := 2 ^ K) ?_
  have a1 : p * 10 ^ s * 2 ^ K * 10 ^ f < c * 2 ^ D * 10 ^ t * 10 ^ f := Nat.mul_lt_mul_of_pos_right h1 hF
  have x1 : p * 10 ^ s * 10 ^ f * 2 ^ K = p * 10 ^ s * 2 ^ K * 10 ^ f := by grind
  have x2 : C * 10 ^ t * 2 ^ K = c * 2 ^ D * 10 ^ t * 10 ^ f := by
   have : c * 2 ^ D * 10 ^ t * 10 ^ f = c * 2 ^ D * 10 ^ f * 10 ^ t := by grind
   rw [this, e1]; grind
  omega
 have g2 : C * 10 ^ t < (p + 1) * 10 ^ s * 10 ^ f := by
  refine Nat.lt_of_mul_lt_mul_right (a := 2 ^ K) ?_
  have a1 : c * 2 ^ D * 10 ^ t * 10 ^ f < (p + 1) * 10 ^ s * 2 ^ K * 10 ^ f := Nat.mul_lt_mul_of_pos_right h2 hF
  have x1 : (p + 1) * 10 ^ s * 10 ^ f * 2 ^ K = (p + 1) * 10 ^ s * 2 ^ K * 10 ^ f := by grind
  have x2 : C * 10 ^ t * 2 ^ K = c * 2 ^ D * 10 ^ t * 10 ^ f := by
   have : c * 2 ^ D * 10 ^ t * 10 ^ f = c * 2 ^ D * 10 ^ f * 10 ^ t := by grind
   rw [this, e1]; grind
  omega
 have hC : C < 10 ^ T := by
  rcases Nat.lt_or_ge D K with h | h
  ·exact e2 h
  ·rw [e3 h, Nat.pow_zero, Nat.mul_one] at g2
   refine Nat.lt_of_mul_lt_mul_right (a := 10 ^ t) ?_
   omega
 rcases Nat.lt_or_ge (s + f) t with h | h
 ·-- p < C * 10^(t-s-f) < p + 1
  obtain ⟨j, hj⟩ : ∃ j, t = s + f + j := ⟨t - s - f, by omega⟩
  rw [hj, Nat.pow_add, Nat.pow_add] at g1 g2
  have y1 : C * (10 ^ s * 10 ^ f * 10 ^ j) = C * 10 ^ j * (10 ^ s * 10 ^ f) := by grind
  have y2 : (p + 1) * 10 ^ s * 10 ^ f = (p + 1) * (10 ^ s * 10 ^ f) := Nat.mul_assoc _ _ _
  have y3 : p * 10 ^ s * 10 ^ f = p * (10 ^ s * 10 ^ f) := Nat.mul_assoc _ _ _
  rw [y1, y2] at g2
  rw [y1, y3] at g1
  have z1 := Nat.lt_of_mul_lt_mul_right g1
  have z2 := Nat.lt_of_mul_lt_mul_right g2
  omega
 ·obtain ⟨j, hj⟩ : ∃ j, s + f = t + j := ⟨s + f - t, by omega⟩
  rw [Nat.mul_assoc, ← Nat.pow_add, hj, Nat.pow_add] at g1
  have y1 : p * (10 ^ t * 10 ^ j) = p * 10 ^ j * 10 ^ t := by grind
  rw [y1] at g1
  have z1 := Nat.lt_of_mul_lt_mul_right g1
  have z2 : p * 1 ≤ p * 10 ^ j := Nat.mul_le_mul_left _ (Nat.pow_pos (by omega))
  omega

theorem Ace {u u' W : Nat} (h : u ≤ u') : Cu u W ≤ Cu u' W := by
 have e1 := Nat.div_add_mod u W
 have e2 := Nat.div_add_mod u' W
 have hq : u / W ≤ u' / W := Nat.div_le_div_right h
 unfold Cu
 have hb : ∀ b : Bool, b.toNat ≤ 1 := Bool.toNat_le
 rcases Nat.eq_or_lt_of_le hq with h1 | h1
 ·rw [h1] at e1 ⊢
  have hr : u % W ≤ u' % W := by omega
  refine Nat.add_le_add_left ?_ _
  generalize u % W = r at *
  generalize u' % W = r' at *
  generalize u' / W = q at *
  by_cases c1 : W < 2 * r'
  ·rw [decide_eq_true c1, Bool.true_or]
   exact hb _
  ·rw [decide_eq_false c1, decide_eq_false (show ¬ W < 2 * r by omega), Bool.false_or, Bool.false_or]
   by_cases c2 : W = 2 * r
   ·rw [decide_eq_true c2, decide_eq_true (show W = 2 * r' by omega)]
    exact Nat.le_refl _
   ·rw [decide_eq_false c2, Bool.false_and]
    exact Nat.zero_le _
 ·have := hb (decide (W < 2 * (u % W)) || (decide (W = 2 * (u % W)) && decide (u / W % 2 = 1)))
  omega
theorem S3 {u u' v : Nat} (hv : 0 < v) (h : u ≤ u') : rnd u v ≤ rnd u' v := by
 obtain ⟨D, hD⟩ : ∃ D, Bb u v = D := ⟨_, rfl⟩
 obtain ⟨D', hD'⟩ : ∃ D', Bb u' v = D' := ⟨_, rfl⟩
 have hDD : D ≤ D' := by
  rw [← hD, ← hD']
  unfold Bb
  have h1 : u / v ≤ u' / v := Nat.div_le_div_right h
  rcases Nat.eq_zero_or_pos (u / v) with h0 | h0
  ·rw [h0, show Nat.log2 0 = 0 by decide]; omega
  ·have a1 := (Db _ h0).1
   have := (Nat.le_log2 (show u' / v ≠ 0 by omega)).2 (Nat.le_trans a1 h1)
   omega
 obtain ⟨s1, s2⟩ := E0 hv hD
 obtain ⟨s1', s2'⟩ := E0 hv hD'
 unfold rnd
 rw [hD, hD']
 refine Nat.le_min.2 ⟨Nat.le_trans (Nat.min_le_left _ _) ?_, Nat.min_le_right _ _⟩
 rcases Nat.eq_or_lt_of_le hDD with h1 | h1
 ·rw [← h1]
  have hm := Ace (W := 2 ^ D * v) h
  exact Nat.add_le_add_left hm _
 ·have c1 : Cu u (2 ^ D * v) ≤ 9007199254740992 := Y6 (Nat.mul_pos (Nat.two_pow_pos D) hv) (by rw [← Nat.mul_assoc]; exact Nat.le_of_lt s2)
  have c2 : 4503599627370496 ≤ Cu u' (2 ^ D' * v) := Ms (Nat.mul_pos (Nat.two_pow_pos D') hv) (by rw [← Nat.mul_assoc]; exact s1'.resolve_left (by omega))
  have c3 : (D + 1) * 4503599627370496 ≤ D' * 4503599627370496 := Nat.mul_le_mul_right _ h1
  generalize Cu u (2 ^ D * v) = x at *
  generalize Cu u' (2 ^ D' * v) = y at *
  omega
theorem W9 (r : Nat) : ∃ D c, r = D * 4503599627370496 + c ∧ c < 9007199254740992 ∧ (D = 0 ∨ 4503599627370496 ≤ c) ∧ Ay r = c * 2 ^ D ∧ Ay (r + 1) = (c + 1) * 2 ^ D := by
 obtain ⟨c, D, h1, h2, h3, h4⟩ := Abr r
 refine ⟨D, c, h1, h3, h4, h2, ?_⟩
 rcases Nat.eq_or_lt_of_le (show c + 1 ≤ 9007199254740992 by omega) with h | h
 ·have e : r + 1 = (D + 1) * 4503599627370496 + 4503599627370496 := by omega
  rw [e, Ba _ _ (by omega) (by omega), h, Nat.pow_succ, Nat.mul_comm (2 ^ D) 2, ← Nat.mul_assoc]
 ·rcases h4 with h5 | h5
  ·have e : r + 1 = c + 1 := by rw [h1, h5]; omega
   rw [e, h5, Nat.pow_zero, Nat.mul_one]
   exact Ex h
  ·have e : r + 1 = D * 4503599627370496 + (c + 1) := by omega
   rw [e, Ba _ _ (by omega) h]
theorem Aad {u v : Nat} (hv : 0 < v) (h : Ay 9218868437227405312 * v ≤ u) : rnd u v = 9218868437227405312 := by
 have h1 : rnd (Ay 9218868437227405312 * v) v = 9218868437227405312 := by
  obtain ⟨D, c, e1, e2, e3, e4, _⟩ := W9 9218868437227405312
  have hp := Nat.two_pow_pos D
  have hc : 4503599627370496 ≤ c := by
   rcases e3 with h | h
   ·rw [h, Nat.zero_mul, Nat.zero_add] at e1; omega
   ·exact h
  have hpl : Bb (Ay 9218868437227405312 * v) v = D := by
   rw [e4]
   refine Ej hv (Or.inr (Nat.mul_le_mul_right _ (Nat.mul_le_mul_right _ hc))) (Nat.mul_lt_mul_of_pos_right (Nat.mul_lt_mul_of_pos_right e2 hp) hv)
  unfold rnd
  rw [hpl, e4, Nat.mul_assoc]
  have : c ≤ Cu (c * (2 ^ D * v)) (2 ^ D * v) := Ms (Nat.mul_pos hp hv) (Nat.le_refl _)
  refine Nat.min_eq_right ?_
  rw [e1]
  exact Nat.add_le_add_left this _
 have h2 := S3 hv h
 rw [h1] at h2
 have h3 : rnd u v ≤ 9218868437227405312 := Nat.min_le_right _ _
 exact Nat.le_antisymm h3 h2
theorem Lj {u v u' v' : Nat} (hv : 0 < v) (hv' : 0 < v') (h : u * v' = u' * v) : rnd u v = rnd u' v' := by
 rw [← Qa (u := u) (v := v) hv', ← Qa (u := u') (v := v') hv, h, Nat.mul_comm v' v]
end
section
def Bq (N : Nat) (e : Int) : Nat := rnd (N * 10 ^ e.toNat * 2 ^ 1074) (10 ^ (-e).toNat)
theorem Fp : ∃ K : Nat, K = 1074 ∧ ∀ N e, Bq N e = rnd (N * 10 ^ e.toNat * 2 ^ K) (10 ^ (-e).toNat) := ⟨1074, rfl, fun _ _ => rfl⟩
theorem Bv (k : Nat) : 0 < 10 ^ k := Nat.pow_pos (by omega)
theorem Ut {u v : Nat} (h : 2 * u < v) : rnd u v = 0 := by
 have h1 : u / v = 0 := Nat.div_eq_of_lt (by omega)
 have h2 : Bb u v = 0 := by unfold Bb; rw [h1]; rfl
 unfold rnd
 rw [h2, Nat.pow_zero, Nat.one_mul]
 unfold Cu
 rw [h1, Nat.mod_eq_of_lt (by omega), decide_eq_false (by omega), decide_eq_false (by omega)]
 rfl
theorem P3 (e : Int) : Bq 0 e = 0 := by
 obtain ⟨K, hK, h⟩ := Fp
 rw [h, Nat.zero_mul, Nat.zero_mul]
 exact Ut (Bv _)
theorem Jd (N j : Nat) (e : Int) : Bq (N * 10 ^ j) e = Bq N (e + j) := by
 obtain ⟨K, hK, h⟩ := Fp
 rw [h, h]
 refine Lj (Bv _) (Bv _) ?_
 have e1 : 10 ^ j * 10 ^ e.toNat * 10 ^ (-(e + j)).toNat = 10 ^ (e + j).toNat * 10 ^ (-e).toNat := by
  rw [← Nat.pow_add, ← Nat.pow_add, ← Nat.pow_add]
  congr 1
  omega
 generalize 10 ^ j = x at *
 generalize 10 ^ e.toNat = y at *
 generalize 10 ^ (-(e + j)).toNat = z at *
 generalize 10 ^ (e + j).toNat = p at *
 generalize 10 ^ (-e).toNat = q at *
 generalize 2 ^ K = U at *
 have h1 : N * x * y * U * z = N * (x * y * z) * U := by grind
 have h2 : N * p * U * q = N * (p * q) * U := by grind
 rw [h1, h2, e1]
set_option exponentiation.threshold 2000 in
theorem Ahp : ∀ K T : Nat, K = 1075 → T = 324 → 2 ^ K < 10 ^ T := by
 intro K T hK hT
 subst hK
 subst hT
 decide +kernel
set_option exponentiation.threshold 2000 in
theorem Ah8 : ∀ K T : Nat, K = 1024 → T = 309 → 2 ^ K ≤ 10 ^ T := by
 intro K T hK hT
 subst hK
 subst hT
 decide +kernel
theorem Qh {N L : Nat} {e : Int} (hN : N < 10 ^ L) (h : (L : Int) + e ≤ -324) : Bq N e = 0 := by
 obtain ⟨K, hK, hd⟩ := Fp
 rw [hd, show e.toNat = 0 by omega, Nat.pow_zero, Nat.mul_one]
 refine Ut ?_
 obtain ⟨T, hT⟩ : ∃ T : Nat, T = 324 := ⟨_, rfl⟩
 have h1 := Ahp (K + 1) T (by omega) hT
 have h2 : 10 ^ L * 10 ^ T ≤ 10 ^ (-e).toNat := by
  rw [← Nat.pow_add]
  exact Nat.pow_le_pow_right (by omega) (by omega)
 rw [Nat.pow_succ] at h1
 refine Nat.lt_of_lt_of_le ?_ h2
 have hL := Bv L
 generalize 10 ^ L = x at *
 generalize 10 ^ T = y at *
 generalize 2 ^ K = U at *
 have a1 : N * (U * 2) ≤ x * (U * 2) := Nat.mul_le_mul_right _ (Nat.le_of_lt hN)
 have a2 : x * (U * 2) < x * y := Nat.mul_lt_mul_of_pos_left h1 hL
 have a3 : 2 * (N * U) = N * (U * 2) := by grind
 omega
theorem Qd {N M : Nat} {e : Int} (hN : 10 ^ M ≤ N) (h : 309 ≤ (M : Int) + e) : Bq N e = 9218868437227405312 := by
 obtain ⟨K, hK, hd⟩ := Fp
 rw [hd]
 refine Aad (Bv _) ?_
 obtain ⟨D, hD⟩ : ∃ D : Nat, D = 2046 := ⟨_, rfl⟩
 have e1 := Ba 4503599627370496 D (by omega) (by omega)
 rw [show D * 4503599627370496 + 4503599627370496 = 9218868437227405312 by omega] at e1
 rw [e1]
 obtain ⟨T, hT⟩ : ∃ T : Nat, T = 309 := ⟨_, rfl⟩
 have h1 := Ah8 (D + 52 - K) T (by omega) hT
 have h2 : 4503599627370496 * 2 ^ D = 2 ^ (D + 52 - K) * 2 ^ K := by
  rw [show (4503599627370496 : Nat) = 2 ^ 52 from rfl, ← Nat.pow_add, ← Nat.pow_add]
  exact congrArg (fun k => 2 ^ k) (show 52 + D = D + 52 - K + K by omega)
 have h3 : 10 ^ T * 10 ^ (-e).toNat ≤ 10 ^ M * 10 ^ e.toNat := by
  rw [← Nat.pow_add, ← Nat.pow_add]
  exact Nat.pow_le_pow_right (by omega) (by omega)
 rw [h2]
 generalize 2 ^ (D + 52 - K) = A at *
 generalize 2 ^ K = U at *
 generalize 10 ^ T = Tn at *
 generalize 10 ^ (-e).toNat = z at *
 generalize 10 ^ M = m at *
 generalize 10 ^ e.toNat = y at *
 have a1 : A * U * z = A * z * U := by grind
 rw [a1]
 refine Nat.mul_le_mul_right _ ?_
 have a2 : A * z ≤ Tn * z := Nat.mul_le_mul_right _ h1
 have a3 : m * y ≤ N * y := Nat.mul_le_mul_right _ hN
 omega
theorem Ab2 {N N' p r T : Nat} {e : Int} (hT : T = 768) (hp : 10 ^ T ≤ p) (a1 : p * 10 ^ r < N) (a2 : N < (p + 1) * 10 ^ r) (b1 : p * 10 ^ r < N') (b2 : N' < (p + 1) * 10 ^ r) (htop : (p + 1) * 10 ^ (e + r).toNat ≤ 10 ^ T * 10 ^ (-(e + r)).toNat) : Bq N e = Bq N' e := by
 have main : ∀ N N' : Nat, N ≤ N' → p * 10 ^ r < N → N' < (p + 1) * 10 ^ r → Bq N e = Bq N' e := by
  intro N N' hle c1 c2
  obtain ⟨K, hK, hd⟩ := Fp
  rw [hd, hd]
  refine Ae3 (Bv _) (Bv _) (Nat.mul_le_mul_right _ (Nat.mul_le_mul_right _ (Nat.mul_le_mul_right _ hle))) ?_
  intro c D hc h1 h2
  have e1 : 10 ^ r * 10 ^ e.toNat * 10 ^ (-(e + r)).toNat = 10 ^ (e + r).toNat * 10 ^ (-e).toNat := by
   rw [← Nat.pow_add, ← Nat.pow_add, ← Nat.pow_add]
   congr 1
   omega
  have hy := Bv e.toNat
  have hz := Bv (-(e + r)).toNat
  have hq := Bv (-e).toNat
  have hU := Nat.two_pow_pos K
  refine Af8 (p := p) (s := (e + r).toNat) (t := (-(e + r)).toNat) (c := c) (D := D) (K := K + 1) (by omega) hT hp hc ?_ ?_ htop
  ·rw [Nat.pow_succ]
   generalize 10 ^ r = x at *
   generalize 10 ^ e.toNat = y at *
   generalize 10 ^ (-(e + r)).toNat = z at *
   generalize 10 ^ (e + r).toNat = s at *
   generalize 10 ^ (-e).toNat = q at *
   generalize 2 ^ K = U at *
   generalize c * 2 ^ D = C at *
   refine Nat.lt_of_mul_lt_mul_right (a := q) ?_
   have g1 : p * x * (y * (U * 2) * z) < N * (y * (U * 2) * z) := Nat.mul_lt_mul_of_pos_right c1 (Nat.mul_pos (Nat.mul_pos hy (by omega)) hz)
   have g2 : 2 * (N * y * U) * z ≤ C * q * z := Nat.mul_le_mul_right _ h1
   have g3 : p * s * (U * 2) * q = p * x * (y * (U * 2) * z) := by
    have : p * s * (U * 2) * q = p * (s * q) * (U * 2) := by grind
    rw [this, ← e1]; grind
   have g4 : N * (y * (U * 2) * z) = 2 * (N * y * U) * z := by grind
   have g5 : C * z * q = C * q * z := by grind
   omega
  ·rw [Nat.pow_succ]
   generalize 10 ^ r = x at *
   generalize 10 ^ e.toNat = y at *
   generalize 10 ^ (-(e + r)).toNat = z at *
   generalize 10 ^ (e + r).toNat = s at *
   generalize 10 ^ (-e).toNat = q at *
   generalize 2 ^ K = U at *
   generalize c * 2 ^ D = C at *
   refine Nat.lt_of_mul_lt_mul_right (a := q) ?_
   have g1 : N' * (y * (U * 2) * z) < (p + 1) * x * (y * (U * 2) * z) := Nat.mul_lt_mul_of_pos_right c2 (Nat.mul_pos (Nat.mul_pos hy (by omega)) hz)
   have g2 : C * q * z ≤ 2 * (N' * y * U) * z := Nat.mul_le_mul_right _ h2
   have g3 : (p + 1) * s * (U * 2) * q = (p + 1) * x * (y * (U * 2) * z) := by
    have : (p + 1) * s * (U * 2) * q = (p + 1) * (s * q) * (U * 2) := by grind
    rw [this, ← e1]; grind
   have g4 : N' * (y * (U * 2) * z) = 2 * (N' * y * U) * z := by grind
   have g5 : C * z * q = C * q * z := by grind
   omega
 rcases Nat.le_total N N' with h | h
 ·exact main N N' h a1 b2
 ·exact (main N' N h b1 a2).symm
theorem Adu {p r q k : Nat} {e : Int} (hk : 769 ≤ k) (hp : 10 ^ (k - 1) ≤ p) (hp2 : p < 10 ^ k) (hq : q < 10 ^ r) (h0 : 0 < q) (hpt : (k : Int) + (e + r) ≤ 768) : Bq (p * 10 ^ r + q) e = Bq (p * 10 + 1) (e + r - 1) := by
 obtain ⟨T, hT⟩ : ∃ T : Nat, T = 768 := ⟨_, rfl⟩
 have hr : 0 < r := by
  rcases Nat.eq_zero_or_pos r with h | h
  ·rw [h, Nat.pow_zero] at hq; omega
  ·exact h
 obtain ⟨j, rfl⟩ : ∃ j, r = j + 1 := ⟨r - 1, by omega⟩
 have e1 : Bq ((p * 10 + 1) * 10 ^ j) e = Bq (p * 10 + 1) (e + (j + 1 : Nat) - 1) := by
  rw [Jd]
  exact congrArg (Bq _) (by omega)
 rw [← e1]
 have hj := Bv j
 have hpT : 10 ^ T ≤ p := Nat.le_trans (Nat.pow_le_pow_right (by omega) (by omega)) hp
 refine Ab2 hT hpT ?_ ?_ ?_ ?_ (r := j + 1) ?_
 ·omega
 ·rw [Nat.add_mul, Nat.one_mul]; omega
 ·rw [Nat.pow_succ]; grind
 ·rw [Nat.pow_succ]; grind
 ·have h1 : (p + 1) * 10 ^ (e + (j + 1 : Nat)).toNat ≤ 10 ^ k * 10 ^ (e + (j + 1 : Nat)).toNat := Nat.mul_le_mul_right _ hp2
  have h2 : 10 ^ k * 10 ^ (e + (j + 1 : Nat)).toNat ≤ 10 ^ T * 10 ^ (-(e + (j + 1 : Nat))).toNat := by
   rw [← Nat.pow_add, ← Nat.pow_add]
   exact Nat.pow_le_pow_right (by omega) (by omega)
  exact Nat.le_trans h1 h2


end
section
def Ah (c : Nat) : Bool := decide (48 ≤ c) && decide (c ≤ 57)
theorem Ca {c : Nat} : Ah c = true ↔ 48 ≤ c ∧ c ≤ 57 := by unfold Ah; simp
theorem Uk {c : Nat} : Ah c = false ↔ ¬ (48 ≤ c ∧ c ≤ 57) := by unfold Ah; simp
theorem Jh {c : Nat} (h : Ah c = true) : dgt c = c - 48 ∧ dgt c < 10 := by
 have := Ca.1 h
 unfold dgt
 rw [if_pos this]
 exact ⟨rfl, by omega⟩
theorem Xs {c : Nat} : dgt c < 10 ↔ Ah c = true := by
 constructor
 ·intro h
  unfold dgt at h
  by_cases h1 : 48 ≤ c ∧ c ≤ 57
  ·exact Ca.2 h1
  ·rw [if_neg h1] at h
   split at h
   ·omega
   ·split at h <;> omega
 ·intro h; exact (Jh h).2
def Ha (l : List Nat) : Bool := l.head? == some 45
def unsg (l : List Nat) : List Nat := if l.head? = some 45 ∨ l.head? = some 43 then l.tail else l
def Af (l : List Nat) : List Nat := l.takeWhile Ah
def Ai (l : List Nat) : List Nat := l.dropWhile Ah
theorem E8 (l : List Nat) : Af l ++ Ai l = l := List.takeWhile_append_dropWhile
theorem Br : ∀ (l : List Nat), ∀ c ∈ Af l, Ah c = true := by
 intro l
 induction l with
 | nil => intro c hc; simp [Af] at hc
 | cons d r ih =>
  intro c hc
  unfold Af at hc ih
  rw [List.takeWhile_cons] at hc
  cases hd : Ah d
  ·rw [hd] at hc; simp at hc
  ·rw [hd] at hc
   simp only [if_true] at hc
   rcases List.mem_cons.1 hc with rfl | h
   ·exact hd
   ·exact ih c h
theorem Cf (l : List Nat) : (Af l).length + (Ai l).length = l.length := by
 have := congrArg List.length (E8 l)
 rw [List.length_append] at this
 exact this
def O0 (n c : Nat) : Nat := if n < 1099511627776 then n * 10 + (c - 48) else n
def amt (f : List Nat) : Nat := f.foldl O0 0
theorem Fh (f : List Nat) (c : Nat) : amt (f ++ [c]) = O0 (amt f) c := by unfold amt; rw [List.foldl_append]; rfl
theorem Gv : ∀ (f : List Nat), (∀ c ∈ f, Ah c = true) → amt f < 10995116277760 := by
 intro f hf
 have main : ∀ (l : List Nat) (a : Nat), a < 10995116277760 → (∀ c ∈ l, Ah c = true) → l.foldl O0 a < 10995116277760 := by
  intro l
  induction l with
  | nil => intro a h _; exact h
  | cons c r ih =>
   intro a h hl
   refine ih (O0 a c) ?_ (fun d hd => hl d (by simp [hd]))
   have := Ca.1 (hl c (by simp))
   unfold O0
   split <;> omega
 exact main f 0 (by omega) hf
def Dq (l : List Nat) : Bool := (l.head? == some 101 || l.head? == some 69) && !(Af (unsg l.tail)).isEmpty
def O6 (l : List Nat) : Int := if Ha l.tail = true then -(amt (Af (unsg l.tail)) : Int) else (amt (Af (unsg l.tail)) : Int)
def expR (l : List Nat) : List Nat := Ai (unsg l.tail)
def exV (l : List Nat) : Int := if Dq l = true then O6 l else 0
def exR (l : List Nat) : List Nat := if Dq l = true then expR l else l
theorem Ah0 (l : List Nat) : -10995116277760 < O6 l ∧ O6 l < 10995116277760 := by
 have := Gv (Af (unsg l.tail)) (Br _)
 unfold O6
 split <;> omega
theorem Yi (l : List Nat) : -10995116277760 < exV l ∧ exV l < 10995116277760 := by
 have := Ah0 l
 unfold exV
 split <;> omega
def Fz (t : List Nat) : Bool := t.head? == some 46
def dW (l : List Nat) : List Nat := Af l
def dF (l : List Nat) : List Nat := if Fz (Ai l) = true then Af (Ai l).tail else []
def dB (l : List Nat) : Bool := !((dW l).isEmpty && (dF l).isEmpty)
def dT (l : List Nat) : List Nat := if Fz (Ai l) = true then Ai (Ai l).tail else Ai l
def dX (l : List Nat) : Int := exV (dT l)
def dR (l : List Nat) : List Nat := exR (dT l)
def num (r : Nat) (f : List Nat) : Nat := pv r (fun i => dgt (f.getD i 0)) f.length
def dV (l : List Nat) : Nat := Bq (num 10 (dW l ++ dF l)) (dX l - (dF l).length)
/-! ### Numbers of digits -/
theorem Zv (r : Nat) : num r [] = 0 := rfl
theorem Fv (r : Nat) (f g : List Nat) : num r (f ++ g) = num r f * r ^ g.length + num r g := by
 unfold num
 rw [List.length_append, Wf]
 congr 1
 ·congr 1
  refine He (fun i hi => ?_)
  rw [List.getD_eq_getElem?_getD, List.getElem?_append_left hi, ← List.getD_eq_getElem?_getD]
 ·refine He (fun i hi => ?_)
  rw [List.getD_eq_getElem?_getD, List.getElem?_append_right (by omega), Nat.add_sub_cancel_left, ← List.getD_eq_getElem?_getD]
theorem Yy (r c : Nat) : num r [c] = dgt c := by
 unfold num
 show pv r _ 1 = _
 simp [pv]
theorem F8 (r c : Nat) (f : List Nat) : num r (c :: f) = dgt c * r ^ f.length + num r f := by
 rw [show c :: f = [c] ++ f from rfl, Fv, Yy]
theorem Xn {r : Nat} {f : List Nat} (h : ∀ c ∈ f, dgt c < r) : num r f < r ^ f.length := by
 unfold num
 refine Z6 (fun i hi => ?_)
 rw [List.getD_eq_getElem?_getD, List.getElem?_eq_getElem hi]
 exact h _ (List.getElem_mem hi)
theorem Ad9 : dgt 48 = 0 := by decide
theorem Kl (r : Nat) : ∀ k : Nat, num r (List.replicate k 48) = 0
 | 0 => rfl
 | k + 1 => by rw [List.replicate_succ, F8, Ad9, Kl r k]; simp
theorem Ch (r : Nat) : ∀ f : List Nat, num r (f.dropWhile (· == 48)) = num r f
 | [] => rfl
 | c :: f => by
  by_cases h : c = 48
  ·subst h
   rw [List.dropWhile_cons_of_pos (by simp), Ch r f, F8, Ad9]
   simp
  ·rw [List.dropWhile_cons_of_neg (by simpa using h)]
theorem Bx (f : List Nat) : (f.dropWhile (· == 48)).head? ≠ some 48 := by
 intro h
 have := List.head?_dropWhile_not (p := (· == 48)) f
 rw [h] at this
 simp at this
theorem Afj {f : List Nat} {c : Nat} (hd : ∀ x ∈ c :: f, Ah x = true) (hc : c ≠ 48) : 10 ^ f.length ≤ num 10 (c :: f) := by
 have h1 := Jh (hd c (by simp))
 have h2 := Ca.1 (hd c (by simp))
 rw [F8]
 have h3 : 1 * 10 ^ f.length ≤ dgt c * 10 ^ f.length := Nat.mul_le_mul_right _ (by omega)
 omega
theorem Ug {f : List Nat} (hd : ∀ x ∈ f, Ah x = true) : num 10 f = 0 ↔ f.dropWhile (· == 48) = [] := by
 rw [← Ch 10 f]
 constructor
 ·intro h
  cases hf : f.dropWhile (· == 48) with
  | nil => rfl
  | cons c g =>
   exfalso
   rw [hf] at h
   have h1 : c ≠ 48 := by
    have := Bx f
    rw [hf] at this
    intro e
    exact this (by rw [e]; rfl)
   have h2 := Afj (f := g) (c := c) (fun x hx => hd x (by
    have : x ∈ f.dropWhile (· == 48) := by rw [hf]; exact hx
    exact (List.dropWhile_sublist _).subset this)) h1
   have := Bv g.length
   omega
 ·intro h; rw [h]; rfl


end
section
def hxA (l : List Nat) : Bool := l.head? == some 48 && (l.tail.head? == some 120 || l.tail.head? == some 88)
def Bh (c : Nat) : Bool := decide (dgt c < 16)
def hxB (l : List Nat) : Bool := hxA l && !(l.drop 2).isEmpty && (l.drop 2).all Bh
def F6 (r : Nat) (f : List Nat) : Nat := Bq (num r f) 0
def Hd (l : List Nat) : Bool := hxB l || (dB l && (dR l).isEmpty && !(l.head? == some 48 && (l.tail.head?.map Ah == some true)))
def Jv (l : List Nat) : Nat := if hxB l = true then F6 16 (l.drop 2) else if Hd l = true then dV l else 0
def dgq (r : Nat) (c : Nat) : Bool := decide (dgt c < r)
/-! ### Bytes of no number -/
def nrw (z : Nat) (us : List Nat) : List Nat := us.map fun u => if 127 < u then z else u
theorem Af1 {z : Nat} (hz : z < 128) (us : List Nat) : ∀ c ∈ nrw z us, c < 128 := by
 intro c hc
 unfold nrw at hc
 obtain ⟨u, _, rfl⟩ := List.mem_map.1 hc
 split <;> omega

end
section
def uL : List UInt8 → List Nat
 | a :: b :: r => (a.toNat * 256 + b.toNat) :: uL r
 | _ => []

def bL (l : List Nat) : List UInt8 := l.flatMap fun u => [UInt8.ofNat (u / 256), UInt8.ofNat u]

theorem P2 : ∀ l : List UInt8, (uL l).length = l.length / 2
 | [] => rfl
 | [_] => by simp [uL]
 | a :: b :: r => by
  have := P2 r
  simp only [uL, List.length_cons, this]
  omega

theorem Aei : ∀ (l : List UInt8) (i : Nat) (h : 2 * i + 1 < l.length), (uL l)[i]? = some (l[2 * i].toNat * 256 + l[2 * i + 1].toNat)
 | [], i, h => by simp at h
 | [_], i, h => by simp at h
 | a :: b :: r, 0, _ => by simp [uL]
 | a :: b :: r, i + 1, h => by
  have := Aei r i (by simp at h; omega)
  simp only [uL, List.getElem?_cons_succ, this]
  rfl

theorem Aiv : ∀ (l : List UInt8), ∀ u ∈ uL l, u < 65536
 | [], u, h => by simp [uL] at h
 | [_], u, h => by simp [uL] at h
 | a :: b :: r, u, h => by
  simp only [uL, List.mem_cons] at h
  rcases h with rfl | h
  ·have := a.toNat_lt; have := b.toNat_lt; omega
  ·exact Aiv r u h

theorem Qx (u : Nat) (l : List Nat) : bL (u :: l) = UInt8.ofNat (u / 256) :: UInt8.ofNat u :: bL l := rfl
theorem Kz (l m : List Nat) : bL (l ++ m) = bL l ++ bL m := by simp [bL]
theorem Adp (u : Nat) : bL [u] = [UInt8.ofNat (u / 256), UInt8.ofNat u] := rfl
theorem Dl : ∀ l : List Nat, (bL l).length = 2 * l.length
 | [] => rfl
 | u :: r => by rw [Qx]; simp [Dl r]; omega

theorem Ait : ∀ (l : List Nat), (∀ u ∈ l, u < 65536) → uL (bL l) = l
 | [], _ => rfl
 | u :: r, h => by
  have hu := h u (by simp)
  rw [Qx, uL, Ait r (fun v hv => h v (by simp [hv]))]
  simp
  omega

theorem Aiy : ∀ (l : List UInt8), bL (uL l) = l.take (2 * (l.length / 2))
 | [] => rfl
 | [_] => by simp [uL, bL]
 | a :: b :: r => by
  rw [uL, Qx, Aiy r]
  have e : 2 * ((a :: b :: r).length / 2) = 2 * (r.length / 2) + 1 + 1 := by simp; omega
  rw [e, List.take_succ_cons, List.take_succ_cons]
  have ha := a.toNat_lt; have hb := b.toNat_lt
  have e1 : (a.toNat * 256 + b.toNat) / 256 = a.toNat := by omega
  rw [e1]
  congr 1
  ·simp
  ·congr 1
   apply UInt8.toNat_inj.1
   simp

/-! ### of a Go string -/
def us (s : ByteArray) : List Nat := uL s.data.toList
def ln (s : ByteArray) : Nat := s.size / 2
def un (s : ByteArray) (i : Nat) : Nat := (us s).getD i 0

theorem Ap (s : ByteArray) : 2 * ln s ≤ s.size := by unfold ln; omega
theorem Ab (s : ByteArray) : (us s).length = ln s := by
 unfold us ln; rw [P2, Go.Lib.size_eq]
theorem J1 (s : ByteArray) : ∀ u ∈ us s, u < 65536 := Aiv _
theorem Akf (s : ByteArray) (i : Nat) (h : 2 * i + 1 < s.size) : un s i = (s[2 * i]'(by omega)).toNat * 256 + (s[2 * i + 1]'h).toNat := by
 have := Aei s.data.toList i (by rw [← Go.Lib.size_eq]; exact h)
 unfold un us
 rw [List.getD_eq_getElem?_getD, this]
 rfl
theorem Pw (s : ByteArray) (i : Nat) : un s i < 65536 := by
 unfold un
 rw [List.getD_eq_getElem?_getD]
 cases h : (us s)[i]? with
 | none => simp
 | some u => exact J1 s u (List.mem_of_getElem? h)
theorem Nr (s : ByteArray) (i : Nat) (h : i < (us s).length) : (us s)[i] = un s i := by
 unfold un; rw [List.getD_eq_getElem?_getD, List.getElem?_eq_getElem h]; rfl
theorem Jf (s : ByteArray) (i : Nat) (h : i < ln s) : (us s).take (i + 1) = (us s).take i ++ [un s i] := by
 have h' : i < (us s).length := by rw [Ab]; exact h
 rw [List.take_succ_eq_append_getElem h', Nr]
theorem Lr (s : ByteArray) : (us s).take (ln s) = us s := List.take_of_length_le (by rw [Ab]; exact Nat.le_refl _)
open Go.RowKit
abbrev Bld (B : Nat) (l : List UInt8) (w : World) : Prop := Lib.IsBuilderF 85 5 B B (Lib.byteCells l) w
theorem Rn {B : Nat} {l : List UInt8} {w : World} (h : Bld B l w) : B < w.heap.size := by
 rcases h with h | h <;> exact Lib.BuilderAtF.lt h
theorem Hz (w : World) (o : Obj) : (w.alloc o).heap[w.heap.size]? = some o := by
 show (w.heap.push o)[w.heap.size]? = _
 rw [Array.getElem?_push, if_pos rfl]
theorem Adm (s : ByteArray) : (s.size : Int) / 2 = (ln s : Int) := by unfold ln; omega
theorem Cr (s : ByteArray) (w : World) (hs : s.size ≤ maxLen) : Cq 34 #[.string s] (.int .i64 (ln s)) w := by
 unfold maxLen at hs
 have hm : (s.size : Int) ≤ 9223372036854775807 := by omega
 go_enter Tryz.func34, Tryz.ntmps34
 go_wp2
 go_ret
 exact ⟨by rw [← Adm]; rfl, rfl⟩
theorem Cw (s : ByteArray) (w : World) (hs : s.size ≤ maxLen) : Cq 38 #[.string s] (.int .i64 (ln s)) w := by
 unfold maxLen at hs
 have hm : (s.size : Int) ≤ 9223372036854775807 := by omega
 go_enter Tryz.func38, Tryz.ntmps38
 go_wp2
 go_ret
 exact ⟨by rw [← Adm]; rfl, rfl⟩
theorem Ajr (a b : Nat) (ha : a < 256) (hb : b < 256) : bits BinOp.or IntKind.u16 ((a : Int) * 256) (b : Int) = ((a * 256 + b : Nat) : Int) := by
 have e : ((a : Int) * 256) = ((a * 256 : Nat) : Int) := by omega
 rw [e, u16_or_nat _ _ (by omega) (by omega)]
 have := Nat.two_pow_add_eq_or_of_lt (i := 8) (b := b) (by omega) a
 rw [show a * 256 = 2 ^ 8 * a by omega, ← this]
theorem Uj (s : ByteArray) (i : Nat) (h0 : 2 * i < s.size) (h1 : 2 * i + 1 < s.size) :
  bits BinOp.or IntKind.u16 (IntKind.u16.wrap (IntKind.u16.wrap ((s[2 * i]'h0).toNat : Int) * 256)) (IntKind.u16.wrap ((s[2 * i + 1]'h1).toNat : Int)) = (un s i : Int) := by
 have c0 := (s[2 * i]'h0).toNat_lt
 have c1 := (s[2 * i + 1]'h1).toNat_lt
 rw [IntWalk.u16_in ((s[2 * i]'h0).toNat : Int) (by omega), IntWalk.u16_in (((s[2 * i]'h0).toNat : Int) * 256) (by omega), IntWalk.u16_in _ (by omega)]
 rw [Ajr _ _ c0 c1, Akf s i h1]
theorem I8 (s : ByteArray) (i : Nat) (w : World) (h : i < ln s) (hs : s.size ≤ maxLen) :
  Cp 85 #[.string s, .int .i64 i] w fun e w' => e = .returned (.int .u16 (un s i)) ∧ ∃ n, w' = w.drewN n := by
 unfold maxLen at hs
 have hl := Ap s
 have a0 : (0 : Int) ≤ 2 * (i : Int) := by omega
 have a1 : 2 * (i : Int) < (s.size : Int) := by omega
 have a2 : (0 : Int) ≤ 2 * (i : Int) + 1 := by omega
 have a3 : 2 * (i : Int) + 1 < (s.size : Int) := by omega
 have b0 : IntKind.i64.wrap (2 * (i : Int)) = 2 * (i : Int) := IntWalk.i64_in _ (by omega)
 have b1 : IntKind.i64.wrap (2 * (i : Int) + 1) = 2 * (i : Int) + 1 := IntWalk.i64_in _ (by omega)
 have b2 : (2 * (i : Int)).toNat = 2 * i := by omega
 have b3 : (2 * (i : Int) + 1).toNat = 2 * i + 1 := by omega
 have H := Lh (Uj s i (by omega) (by omega))
 clear hl
 go_enter Tryz.func85, Tryz.ntmps85
 go_wp2
 go_quiet (fail)
 go_wp2
 go_ret
 exact ⟨by rw [← H.out]; rfl, _, rfl⟩
theorem Aih (s : ByteArray) (i : Nat) (w : World) (h : i < ln s) (hs : s.size ≤ maxLen) :
  Cp 89 #[.string s, .int .i64 i] w fun e w' => e = .returned (.int .u16 (un s i)) ∧ ∃ n, w' = w.drewN n := by
 unfold maxLen at hs
 have hl := Ap s
 have a0 : (0 : Int) ≤ 2 * (i : Int) := by omega
 have a1 : 2 * (i : Int) < (s.size : Int) := by omega
 have a2 : (0 : Int) ≤ 2 * (i : Int) + 1 := by omega
 have a3 : 2 * (i : Int) + 1 < (s.size : Int) := by omega
 have b0 : IntKind.i64.wrap (2 * (i : Int)) = 2 * (i : Int) := IntWalk.i64_in _ (by omega)
 have b1 : IntKind.i64.wrap (2 * (i : Int) + 1) = 2 * (i : Int) + 1 := IntWalk.i64_in _ (by omega)
 have b2 : (2 * (i : Int)).toNat = 2 * i := by omega
 have b3 : (2 * (i : Int) + 1).toNat = 2 * i + 1 := by omega
 have H := Lh (Uj s i (by omega) (by omega))
 clear hl
 go_enter Tryz.func89, Tryz.ntmps89
 go_wp2
 go_quiet (fail)
 go_wp2
 go_ret
 exact ⟨by rw [← H.out]; rfl, _, rfl⟩
theorem P9 (l : List UInt8) (u : Nat) (hu : u < 65536) :
  Lib.byteCells (l ++ bL [u]) = (Lib.byteCells l ++ [Value.int .u8 ((u : Int) / 256)]) ++ [Value.int .u8 ((u : Int) % 256)] := by
 rw [Lib.byteCells_append, Adp]
 simp [Lib.byteCells]
 omega
theorem Oq (B : Nat) (l : List UInt8) (u : Nat) (hu : u < 65536) (w : World) (h : Bld B l w) (hlen : l.length + 2 ≤ 140737488355328) (hBw : B ≤ w.heap.size) :
  Cp 84 #[.pointer (some ⟨B, 0, none⟩), .int .u16 u] w fun e w' => e = .returned (.tuple #[]) ∧ Bld B (l ++ bL [u]) w' ∧ Below B w w' := by
 have h1 : (Lib.byteCells l).length + 1 ≤ 140737488355328 := by rw [Lib.byteCells_length]; omega
 have h2 : ((Lib.byteCells l) ++ [Value.int .u8 ((u : Int) / 256)]).length + 1 ≤ 140737488355328 := by rw [List.length_append, Lib.byteCells_length]; simp; omega
 go_enter Tryz.func84, Tryz.ntmps84
 go_wp2_with fail
 refine (Tryz.Builder_WriteByte_k B B _ _ _ h h1 hBw).mono ?_
 rintro e w1 ⟨rfl, hb1, bl1, _⟩
 have hBw1 := Nat.le_trans hBw bl1.size
 go_wp2_with fail
 refine (Tryz.Builder_WriteByte_k B B _ _ _ (Or.inr hb1) h2 hBw1).mono ?_
 rintro e w2 ⟨rfl, hb2, bl2, _⟩
 go_wp2
 go_end0
 refine ⟨rfl, ?_, bl1.trans bl2⟩
 rw [Bld, P9 l u hu]
 exact Or.inr hb2
open Go.RowKit
abbrev Own (B : Nat) (l : List UInt8) (v : Value) (w : World) : Prop := w.ownsRow B 5 1 v l.length (Lib.byteCells l)
theorem Akh : (Tryz.prog.info? 5).map (fun i => (i.zero, i.size, i.bytes)) = some (some (.int .u8 0), 1, 1) := by kernel_rfl
theorem Aid (u : Nat) (hu : u < 65536) : bits BinOp.and IntKind.u16 (u : Int) 255 % 256 = (u : Int) % 256 := by
 have := u16_and_nat u 255 hu (by omega)
 rw [show (255 : Int) = ((255 : Nat) : Int) from rfl, this]
 have h2 := Nat.and_two_pow_sub_one_eq_mod u 8
 rw [show (255 : Nat) = 2 ^ 8 - 1 from rfl, h2]
 omega
theorem Own.nil (B : Nat) (w : World) : Own B [] (.slice none 0 0) w := World.ownsRow_nil _ _ _ _
theorem Zk (B : Nat) (l : List UInt8) (v : Value) (u : Nat) (hu : u < 65536) (w : World) (h : Own B l v w) (hlen : l.length + 2 ≤ 140737488355328) (hBw : B ≤ w.heap.size) :
  Cp 82 #[v, .int .u16 u] w fun e w' => ∃ v', e = .returned v' ∧ Own B (l ++ bL [u]) v' w' ∧ Below B w w' := by
 obtain ⟨i0, hi, hz0, hz1, hz2⟩ := info_parts Akh
 have hA := Aid u hu
 go_enter Tryz.func82, Tryz.ntmps82
 go_wp2_with (at_builtin; refine wpList_append_own _ rfl _ _ 60 rfl B 5 i0 (.int .u8 0) 1 1 Tryz.underlying60 hi hz0 hz1 hz2 rfl (by decide) v l.length (Lib.byteCells l) rfl (h.alloc _) ⟨w.heap.size, 0, none⟩ 2 2 [.int .u8 ((u : Int) / 256), .int .u8 ((u : Int) % 256)] rfl rfl ?c1 ?c2 ?c3 ?c4 ?c5 ?_)
 case c1 => exact cell_two_new _ _ _ _
 case c2 => simp [Value.oneCell']
 case c3 => unfold maxLen; omega
 case c4 => omega
 case c5 => simp; omega
 intro v' w1 hown hg _
 go_wp2
 go_ret
 refine ⟨v', rfl, ?_, ((Below.refl B w).alloc hBw _).grown hg (by simp; omega) (fun k hk => (h.lt k hk).1)⟩
 rw [Own, P9 l u hu]
 simpa [Adp] using hown
open Go.RowKit
def spB (u : Int) : Bool := u == 9 || u == 11 || u == 12 || u == 32 || u == 160 || u == 5760 || u == 6158 || u == 8239 || u == 8287 || u == 12288 || u == 65279 || (decide (8192 ≤ u) && decide (u ≤ 8202))
def enB (u : Int) : Bool := u == 10 || u == 13 || u == 8232 || u == 8233
def blB (u : Int) : Bool := spB u || enB u
def stB (u : Int) : Bool := (decide (97 ≤ u) && decide (u ≤ 122)) || (decide (65 ≤ u) && decide (u ≤ 90)) || u == 36 || u == 95 || (decide (128 ≤ u) && !(blB u))
def ptB (u : Int) : Bool := stB u || (decide (48 ≤ u) && decide (u ≤ 57))
theorem Px (u : Int) (w : World) : Cq 101 #[.int .u16 u] (.bool (spB u)) w := by
 go_enter Tryz.func101, Tryz.ntmps101
 go_wp2
 all_goals go_ret
 all_goals exact ⟨by simp [spB, *] <;> omega, rfl⟩
theorem Ok (u : Int) (w : World) : Cq 74 #[.int .u16 u] (.bool (spB u)) w := by
 go_enter Tryz.func74, Tryz.ntmps74
 go_wp2
 all_goals go_ret
 all_goals exact ⟨by simp [spB, *] <;> omega, rfl⟩
theorem Tp (u : Int) (w : World) : Cq 100 #[.int .u16 u] (.bool (enB u)) w := by
 go_enter Tryz.func100, Tryz.ntmps100
 go_wp2
 all_goals go_ret
 all_goals exact ⟨by simp [enB, *], rfl⟩
theorem Dh (u : Int) (w : World) : Cq 73 #[.int .u16 u] (.bool (enB u)) w := by
 go_enter Tryz.func73, Tryz.ntmps73
 go_wp2
 all_goals go_ret
 all_goals exact ⟨by simp [enB, *], rfl⟩
theorem Abh (u : Int) (w : World) : Cq 104 #[.int .u16 u] (.bool (blB u)) w := by
 go_enter Tryz.func104, Tryz.ntmps104
 go_wp2_with (first | (go_at_call 101; refine (Px _ _).mono ?_; rintro e w' ⟨rfl, rfl⟩) | (go_at_call 100; refine (Tp _ _).mono ?_; rintro e w' ⟨rfl, rfl⟩))
 all_goals go_ret
 all_goals exact ⟨by simp [blB, *], rfl⟩
theorem La (u : Int) (w : World) : Cq 67 #[.int .u16 u] (.bool (stB u)) w := by
 go_enter Tryz.func67, Tryz.ntmps67
 go_wp2_with (first | (go_at_call 104; refine (Abh _ _).mono ?_; rintro e w' ⟨rfl, rfl⟩))
 all_goals go_ret
 all_goals exact ⟨by simp [stB, *] <;> omega, rfl⟩
theorem Ajn (u : Int) (h : u < 128) : stB u = ((decide (97 ≤ u) && decide (u ≤ 122)) || (decide (65 ≤ u) && decide (u ≤ 90)) || u == 36 || u == 95) := by
 have h128 : decide (128 ≤ u) = false := by simp; omega
 simp [stB, h128]
theorem Du (u : Int) (w : World) : Cq 51 #[.int .u16 u] (.bool (stB u)) w := by
 go_enter Tryz.func51, Tryz.ntmps51
 go_wp2_with (first | (go_at_call 74; refine (Ok _ _).mono ?_; rintro e w' ⟨rfl, rfl⟩) | (go_at_call 73; refine (Dh _ _).mono ?_; rintro e w' ⟨rfl, rfl⟩))
 all_goals go_ret
 all_goals refine ⟨Fs ?_, rfl⟩
 all_goals first | (rw [Ajn u (by omega), Bool.eq_iff_iff]; simp; omega) | (simp [stB, blB, *] <;> omega)
theorem U9 (u : Int) (w : World) : Cq 90 #[.int .u16 u] (.bool (ptB u)) w := by
 go_enter Tryz.func90, Tryz.ntmps90
 go_wp2_with (first | (go_at_call 67; refine (La _ _).mono ?_; rintro e w' ⟨rfl, rfl⟩))
 all_goals go_ret
 all_goals exact ⟨by simp [ptB, *] <;> omega, rfl⟩
theorem Acz (u : Int) (w : World) : Cq 50 #[.int .u16 u] (.bool (ptB u)) w := by
 go_enter Tryz.func50, Tryz.ntmps50
 go_wp2_with (first | (go_at_call 51; refine (Du _ _).mono ?_; rintro e w' ⟨rfl, rfl⟩))
 all_goals go_ret
 all_goals exact ⟨by simp [ptB, *] <;> omega, rfl⟩
open Go.RowKit
theorem Xc (ns : List UInt8) (s : ByteArray) : (ns.map fun b => (b.toNat : Int)).foldl (fun r n => r.push (UInt8.ofNat n.toNat)) s = ⟨s.data ++ ns.toArray⟩ := by
 induction ns generalizing s with
 | nil => simp
 | cons b r ih =>
  simp only [List.map_cons, List.foldl_cons, ih]
  apply ByteArray.ext
  simp [ByteArray.push]
theorem Gx {B : Nat} {l : List UInt8} {v : Value} {w : World} (h : Own B l v w) : (convert 60 9 v).run Tryz.prog w = .ok (.string ⟨l.toArray⟩) w := by
 rcases h.2 with ⟨rfl, hn⟩ | ⟨g, cap, cur, rfl, hB, hg, hcap, hmax, hcur, htk⟩
 ·have : l = [] := List.eq_nil_of_length_eq_zero hn
  subst this
  rfl
 ·have hc := h.cells (g := g) rfl
  rw [run_convert_bytes_string w 60 9 5 _ _ _ Tryz.underlying60 Tryz.underlying5 Tryz.underlying9]
  have hl := run_loadCells_list (P := Tryz.prog) w ⟨g, 0, none⟩ (Lib.byteCells l) hc
  rw [Lib.byteCells_length] at hl
  rw [run_bytesToString w ⟨g, 0, none⟩ l.length cap (l.map fun b => (b.toNat : Int)) (by rw [hl]; simp [Lib.byteCells, Function.comp_def])]
  rw [Xc]
  simp
theorem Ql {B : Nat} {l : List UInt8} {v : Value} {w : World} (h : Own B l v w) (n : Nat) : Own B l v (w.drewN n) := h
open Go.RowKit
def wdL (s : ByteArray) : List Nat := s.data.toList.map fun b => b.toNat
theorem En (s : ByteArray) : (wdL s).length = s.size := by rw [wdL, List.length_map, ← Lib.size_eq]
theorem Afu (s : ByteArray) (k : Nat) (h : k < s.size) : (wdL s).take (k + 1) = (wdL s).take k ++ [(s[k]'h).toNat] := by
 have h' : k < (wdL s).length := by rw [En]; exact h
 rw [List.take_succ_eq_append_getElem h']
 simp [wdL]; rfl
theorem Aie (s : ByteArray) : (wdL s).take s.size = wdL s := List.take_of_length_le (by rw [En]; exact Nat.le_refl _)
theorem Na {α : Type} (l : List α) (k : Nat) : (l.take k).length ≤ k := List.length_take_le _ _
theorem Ld (s : ByteArray) (w : World) (hs : s.size ≤ 35184372088832) :
  Ct 42 #[.string s] (.string ⟨(bL (wdL s)).toArray⟩) w := by
 have hm : (s.size : Int) ≤ 35184372088832 := by omega
 have HS := Lh hs
 clear hs
 go_enter Tryz.func42, Tryz.ntmps42
 go_wp2
 go_loopw [3, 4] (fun v i wr => ∃ k : Nat, i = .int .i64 k ∧ k ≤ s.size ∧ Own w.heap.size (bL ((wdL s).take k)) v wr ∧ Below w.heap.size w wr) (fun _ i _ => s.size - (intOf i).toNat)
 case atStart => exact ⟨0, rfl, Nat.zero_le _, Own.nil _ _, Below.refl _ _⟩
 case round =>
  obtain ⟨k, rfl, hk, hI, hbw⟩ := hrel
  by_cases hlt : k < s.size
  ·have hl := Na (wdL s) k
   have hu := (s[k]'hlt).toNat_lt
   have hr := fun W v h hb => Zk w.heap.size (bL ((wdL s).take k)) v (s[k]'hlt).toNat (by omega) W h (by rw [Dl]; have := HS.out; omega) hb
   have HW := Lh (show IntKind.u16.wrap (((s[k]'hlt).toNat : Nat) : Int) = ((s[k]'hlt).toNat : Int) from IntWalk.u16_in _ (by omega))
   have HG := Lh (Afu s k hlt)
   clear hl hu
   go_wp2_with fail
   rw [HW.out]
   refine (hr _ _ hI hbw.size).mono ?_
   rintro e w2 ⟨v2, rfl, hI2, hb2⟩
   go_wp2
   go_roundw
   case rel => exact ⟨k + 1, by go_num, by omega, by rw [HG.out, Kz]; exact hI2, hbw.trans hb2⟩
   case measure => simp [intOf]; omega
  ·have HZ := Lh (show (wdL s).take k = wdL s by rw [show k = s.size by omega]; exact Aie s)
   have hcv := Gx hI
   go_wp2
   go_ret
   rw [HZ.out]
   exact ⟨rfl, hbw⟩
open Go.RowKit
theorem Cx : (Tryz.prog.info? 52).map (fun i => (i.zero, i.size, i.bytes)) = some (some (.int .u16 0), 1, 2) := by kernel_rfl
def Mg (ls : List Nat) (b off : Nat) (w : World) : Prop := ∀ (k u : Nat), ls[k]? = some u → w.cell? ⟨b, off + k, none⟩ = some (.int .u16 (u : Int))
theorem Ir {ls : List Nat} {b off B : Nat} {w w' : World} (h : Mg ls b off w) (hb : b < B) (hbw : Below B w w') : Mg ls b off w' := by
 intro k u hk
 rw [hbw.cell (p := ⟨b, off + k, none⟩) hb]
 exact h k u hk
theorem Ad6 (ls : List Nat) (hu : ∀ u ∈ ls, u < 65536) (b off cap : Nat) (w : World) (hb : b < w.heap.size) (hc : Mg ls b off w) (hs : 2 * ls.length ≤ 140737488355328) :
  Ct 44 #[.slice (some ⟨b, off, none⟩) ls.length cap] (.string ⟨(bL ls).toArray⟩) w := by
 obtain ⟨N, hN⟩ : ∃ N, ls.length = N := ⟨_, rfl⟩
 rw [hN] at hs ⊢
 have hm : (N : Int) ≤ 70368744177664 := by omega
 have HS := Lh hs
 have HN := Lh hN
 clear hs hN
 have hg : Cp 83 #[.pointer (some ⟨w.heap.size, 0, none⟩), .int .i64 (2 * (N : Int))] (w.alloc (.cells #[.pointer none, .slice none 0 0] 85)) fun e w' => e = .returned (.tuple #[]) ∧ (Lib.BuilderAt 85 5 w.heap.size w.heap.size (.pointer (some ⟨w.heap.size, 0, none⟩)) [] w' ∧ Below w.heap.size (w.alloc (.cells #[.pointer none, .slice none 0 0] 85)) w') :=
  Tryz.Builder_Grow_fresh w.heap.size w.heap.size (2 * N) _ (Nat.le_refl _) (Hz w _) (by simp) (by have := HS.out; omega)
 go_enter Tryz.func44, Tryz.ntmps44
 go_wp2_with fail
 refine hg.mono ?_
 rintro e w1 ⟨rfl, hb1, bl1⟩
 have hbl : Below w.heap.size w w1 := ((Below.refl w.heap.size w).alloc (Nat.le_refl _) _).trans bl1
 clear hg
 go_wp2
 go_loopw [12] (fun i wr => ∃ k : Nat, i = .int .i64 k ∧ k ≤ N ∧ Bld w.heap.size (bL (ls.take k)) wr ∧ Below w.heap.size w wr) (fun i _ => N - (intOf i).toNat)
 case atStart => exact ⟨0, rfl, Nat.zero_le _, Lib.IsBuilderF.of (.inr hb1), hbl⟩
 case round =>
  obtain ⟨k, rfl, hk, hI, hbw⟩ := hrel
  have hsz := Rn hI
  by_cases hlt : k < N
  ·have hlt2 : k < ls.length := by rw [HN.out]; exact hlt
   have hcell := Ir hc hb hbw k ls[k] (List.getElem?_eq_getElem hlt2)
   have hu1 := hu _ (List.getElem_mem hlt2)
   obtain ⟨u, hue⟩ : ∃ u, ls[k] = u := ⟨_, rfl⟩
   rw [hue] at hcell hu1
   have hl := Na ls k
   have hr := fun W h hb => Oq w.heap.size (bL (ls.take k)) u hu1 W h (by rw [Dl]; have := HS.out; omega) hb
   have HG := Lh (show ls.take (k + 1) = ls.take k ++ [u] by rw [List.take_succ_eq_append_getElem hlt2, hue])
   clear hl hu1 hue hc hu
   go_wp2_with fail
   refine (hr _ hI (by omega)).mono ?_
   rintro e w2 ⟨rfl, hI2, hb2⟩
   go_wp2
   go_roundw
   case rel => exact ⟨k + 1, by go_num, by omega, by rw [HG.out, Kz]; exact hI2, hbw.trans hb2⟩
   case measure => simp [intOf]; omega
  ·have hS := Tryz.Builder_String_any_k w.heap.size w.heap.size _ wr hI (by omega)
   have HZ := Lh (show ls.take k = ls from List.take_of_length_le (by rw [HN.out]; omega))
   clear hc hu
   go_wp2_with (go_at_call 61; refine hS.mono ?_; rintro e w2 ⟨rfl, _, hb2, _⟩)
   go_ret
   rw [HZ.out]
   exact ⟨rfl, hbw.trans hb2⟩
theorem Abb (a : Option Addr) (cap : Nat) (w : World) : Ct 44 #[.slice a 0 cap] (.string ⟨#[]⟩) w := by
 have hg : Cp 83 #[.pointer (some ⟨w.heap.size, 0, none⟩), .int .i64 0] (w.alloc (.cells #[.pointer none, .slice none 0 0] 85)) fun e w' => e = .returned (.tuple #[]) ∧ (Lib.BuilderAt 85 5 w.heap.size w.heap.size (.pointer (some ⟨w.heap.size, 0, none⟩)) [] w' ∧ Below w.heap.size (w.alloc (.cells #[.pointer none, .slice none 0 0] 85)) w') :=
  Tryz.Builder_Grow_fresh w.heap.size w.heap.size 0 _ (Nat.le_refl _) (Hz w _) (by simp) (by omega)
 go_enter Tryz.func44, Tryz.ntmps44
 go_wp2_with fail
 refine hg.mono ?_
 rintro e w1 ⟨rfl, hb1, bl1⟩
 have hbl : Below w.heap.size w w1 := ((Below.refl w.heap.size w).alloc (Nat.le_refl _) _).trans bl1
 clear hg
 go_wp2
 go_loopw [12] (fun i wr => i = .int .i64 0 ∧ Bld w.heap.size [] wr ∧ Below w.heap.size w wr) (fun _ _ => 0)
 case atStart => exact ⟨rfl, Lib.IsBuilderF.of (.inr hb1), hbl⟩
 case round =>
  obtain ⟨rfl, hI, hbw⟩ := hrel
  have hsz := Rn hI
  have hS := Tryz.Builder_String_any_k w.heap.size w.heap.size _ wr hI (by omega)
  go_wp2_with (go_at_call 61; refine hS.mono ?_; rintro e w2 ⟨rfl, _, hb2, _⟩)
  go_ret
  exact ⟨rfl, hbw.trans hb2⟩
theorem Acx (ls : List Nat) (hu : ∀ u ∈ ls, u < 65536) (b off cap : Nat) (w : World) (hb : b < w.heap.size) (hc : Mg ls b off w) (hs : 2 * ls.length ≤ 140737488355328) :
  Ct 112 #[.slice (some ⟨b, off, none⟩) ls.length cap] (.string ⟨(bL ls).toArray⟩) w := by
 obtain ⟨N, hN⟩ : ∃ N, ls.length = N := ⟨_, rfl⟩
 rw [hN] at hs ⊢
 have hm : (N : Int) ≤ 70368744177664 := by omega
 have HS := Lh hs
 have HN := Lh hN
 clear hs hN
 go_enter Tryz.func112, Tryz.ntmps112
 go_wp2
 go_loopw [3, 4] (fun v i wr => ∃ k : Nat, i = .int .i64 k ∧ k ≤ N ∧ Own w.heap.size (bL (ls.take k)) v wr ∧ Below w.heap.size w wr) (fun _ i _ => N - (intOf i).toNat)
 case atStart => exact ⟨0, rfl, Nat.zero_le _, Own.nil _ _, Below.refl _ _⟩
 case round =>
  obtain ⟨k, rfl, hk, hI, hbw⟩ := hrel
  by_cases hlt : k < N
  ·have hlt2 : k < ls.length := by rw [HN.out]; exact hlt
   have hcell := Ir hc hb hbw k ls[k] (List.getElem?_eq_getElem hlt2)
   have hu1 := hu _ (List.getElem_mem hlt2)
   obtain ⟨u, hue⟩ : ∃ u, ls[k] = u := ⟨_, rfl⟩
   rw [hue] at hcell hu1
   have hl := Na ls k
   have hr := fun W v h hb => Zk w.heap.size (bL (ls.take k)) v u hu1 W h (by rw [Dl]; have := HS.out; omega) hb
   have HG := Lh (show ls.take (k + 1) = ls.take k ++ [u] by rw [List.take_succ_eq_append_getElem hlt2, hue])
   clear hl hu1 hue hc hu
   go_wp2_with fail
   refine (hr _ _ hI hbw.size).mono ?_
   rintro e w2 ⟨v2, rfl, hI2, hb2⟩
   go_wp2
   go_roundw
   case rel => exact ⟨k + 1, by go_num, by omega, by rw [HG.out, Kz]; exact hI2, hbw.trans hb2⟩
   case measure => simp [intOf]; omega
  ·have HZ := Lh (show ls.take k = ls from List.take_of_length_le (by rw [HN.out]; omega))
   have hcv := Gx hI
   clear hc hu
   go_wp2
   go_ret
   rw [HZ.out]
   exact ⟨rfl, hbw⟩
theorem Yr (a : Option Addr) (cap : Nat) (w : World) : Ct 112 #[.slice a 0 cap] (.string ⟨#[]⟩) w := by
 have hcv := fun W => Gx (Own.nil w.heap.size W)
 go_enter Tryz.func112, Tryz.ntmps112
 go_wp2
 go_loopw [3, 4] (fun v i wr => i = .int .i64 0 ∧ v = .slice none 0 0 ∧ Below w.heap.size w wr) (fun _ _ _ => 0)
 case atStart => exact ⟨rfl, rfl, Below.refl _ _⟩
 case round =>
  obtain ⟨rfl, rfl, hbw⟩ := hrel
  go_wp2
  go_ret
  exact ⟨rfl, hbw⟩
theorem Abw {w : World} {b : Nat} {t : TypeId} {n : Nat} {f : Nat → Value} (h : w.rowIs b t n f) (m : Nat) : (w.drewN m).rowIs b t n f := h
theorem Aa1 (s : ByteArray) (w : World) (hs : s.size ≤ 140737488355328) :
  Cp 252 #[.string s] w fun e w' => e = .returned (.slice (some ⟨w.heap.size, 0, none⟩) (ln s) (ln s)) ∧ w'.rowIs w.heap.size 52 (ln s) (fun j => .int .u16 (un s j : Nat)) ∧ Below w.heap.size w w' := by
 have hl := Ap s
 have hs63 : s.size ≤ maxLen := by unfold maxLen; omega
 have hm : ((ln s : Nat) : Int) ≤ 70368744177664 := by omega
 have hmk := run_make_row' (P := Tryz.prog) 57 52 (.int .u16 0) 2 Tryz.underlying57 Cx rfl .i64 .i64 (ln s) (by omega) (by omega) w
 have hmade := World.rowIs_made w (.int .u16 0) (ln s) 52
 have H63 := Lh hs63
 have c1 := fun W => Cr s W H63.out
 clear hs hl hs63
 have hr0 : (w.alloc (.cells (madeCells #[.int .u16 0] (ln s)) 52)).rowIs w.heap.size 52 (ln s) (fun j => .int .u16 ((if j < 0 then un s j else 0 : Nat) : Int)) := hmade.congr (fun j _ => by simp)
 clear hmade
 go_enter Tryz.func252, Tryz.ntmps252
 go_wp2_with (go_at_call 34; refine (c1 _).mono ?_; rintro e w' ⟨rfl, rfl⟩)
 clear hmk
 go_loopw [10] (fun i wr => ∃ k : Nat, i = .int .i64 k ∧ k ≤ ln s ∧ wr.rowIs w.heap.size 52 (ln s) (fun j => .int .u16 ((if j < k then un s j else 0 : Nat) : Int)) ∧ Below w.heap.size w wr) (fun i _ => ln s - (intOf i).toNat)
 case atStart => exact ⟨0, rfl, Nat.zero_le _, hr0, (Below.refl _ _).alloc (Nat.le_refl _) _⟩
 case round =>
  obtain ⟨k, rfl, hk, hI, hbw⟩ := hrel
  by_cases hlt : k < ln s
  ·have hcell : wr.cell? ⟨w.heap.size, k, none⟩ = some (.int .u16 0) := by
    have := hI.cell hlt
    simpa using this
   have hfz := hI.frozen k
   have c2 := fun W => I8 s k W hlt H63.out
   have hI2 := hI.set k (.int .u16 (un s k : Nat))
   have hI3 : (wr.setCell ⟨w.heap.size, k, none⟩ (.int .u16 (un s k : Nat))).rowIs w.heap.size 52 (ln s) (fun j => .int .u16 ((if j < k + 1 then un s j else 0 : Nat) : Int)) := by
    refine hI2.congr fun j hj => ?_
    by_cases h1 : j = k
    ·subst h1; simp
    ·by_cases h2 : j < k
     ·rw [if_neg h1, if_pos h2, if_pos (by omega)]
     ·rw [if_neg h1, if_neg h2, if_neg (by omega)]
   have HI := Lh hI3
   clear hI hI2 hI3
   go_wp2_with fail
   refine Dm (c2 _) fun n => ?_
   go_wp2
   go_roundw
   case rel => exact ⟨k + 1, by go_num, by omega, Abw HI.out n, Ac (hbw.setCell (Nat.le_refl _) _) n⟩
   case measure => simp [intOf]; omega
  ·have HI := Lh (show wr.rowIs w.heap.size 52 (ln s) (fun j => .int .u16 (un s j : Nat)) from hI.congr fun j hj => by rw [if_pos (by omega)])
   clear hI
   go_wp2
   go_ret
   exact ⟨rfl, HI.out, hbw⟩
abbrev Own16 (B : Nat) (l : List Nat) (v : Value) (w : World) : Prop := w.ownsRow B 52 1 v l.length (l.map fun u => Value.int .u16 (u : Nat))
theorem Own16.nil (B : Nat) (w : World) : Own16 B [] (.slice none 0 0) w := World.ownsRow_nil _ _ _ _
open Go.RowKit
def Gf (s : ByteArray) (i : Int) : Bool := decide (0 ≤ i) && decide (i < ln s)
def unV (s : ByteArray) (i : Int) : Nat := if Gf s i then un s i.toNat else 0
theorem T5 (s : ByteArray) (i : Int) (w : World) (hs : s.size ≤ maxLen) :
  Cp 66 #[.string s, .int .i64 i] w fun e w' => e = .returned (.tuple #[.int .u16 (unV s i), .bool (Gf s i)]) ∧ ∃ n, w' = w.drewN n := by
 have c1 := fun W => Cr s W hs
 by_cases h0 : 0 ≤ i
 ·obtain ⟨k, rfl⟩ := Int.eq_ofNat_of_zero_le h0
  by_cases h1 : k < ln s
  ·have e1 : Gf s (k : Int) = true := by simp [Gf]; omega
   have e2 : unV s (k : Int) = un s k := by unfold unV; rw [if_pos e1]; rfl
   have c2 := fun W => I8 s k W h1 hs
   have h1' : (k : Int) < (ln s : Int) := by omega
   rw [e1, e2]
   clear e1 e2
   go_enter Tryz.func66, Tryz.ntmps66
   go_wp2_with (first | (go_at_call 34; refine (c1 _).mono ?_; rintro e w' ⟨rfl, rfl⟩) | (go_at_call 85; refine (c2 _).mono ?_; rintro e w' ⟨rfl, n, rfl⟩))
   go_ret2
   exact ⟨rfl, n, rfl⟩
  ·have e1 : Gf s (k : Int) = false := by simp [Gf]; omega
   have e2 : unV s (k : Int) = 0 := by unfold unV; rw [e1]; rfl
   have h1' : ¬ ((k : Int) < (ln s : Int)) := by omega
   rw [e1, e2]
   clear e1 e2
   go_enter Tryz.func66, Tryz.ntmps66
   go_wp2_with (first | (go_at_call 34; refine (c1 _).mono ?_; rintro e w' ⟨rfl, rfl⟩))
   go_ret2
   exact ⟨rfl, 0, rfl⟩
 ·have e1 : Gf s i = false := by simp [Gf]; omega
  have e2 : unV s i = 0 := by unfold unV; rw [e1]; rfl
  rw [e1, e2]
  clear e1 e2
  go_enter Tryz.func66, Tryz.ntmps66
  go_wp2_with (first | (go_at_call 34; refine (c1 _).mono ?_; rintro e w' ⟨rfl, rfl⟩))
  go_ret2
  exact ⟨rfl, 0, rfl⟩
theorem Pb (s : ByteArray) (i : Int) (w : World) (hs : s.size ≤ maxLen) :
  Cp 48 #[.string s, .int .i64 i] w fun e w' => e = .returned (.tuple #[.int .u16 (unV s i), .bool (Gf s i)]) ∧ ∃ n, w' = w.drewN n := by
 have c1 := fun W => Cw s W hs
 by_cases h0 : 0 ≤ i
 ·obtain ⟨k, rfl⟩ := Int.eq_ofNat_of_zero_le h0
  by_cases h1 : k < ln s
  ·have e1 : Gf s (k : Int) = true := by simp [Gf]; omega
   have e2 : unV s (k : Int) = un s k := by unfold unV; rw [if_pos e1]; rfl
   have c2 := fun W => Aih s k W h1 hs
   have h1' : (k : Int) < (ln s : Int) := by omega
   rw [e1, e2]
   clear e1 e2
   go_enter Tryz.func48, Tryz.ntmps48
   go_wp2_with (first | (go_at_call 38; refine (c1 _).mono ?_; rintro e w' ⟨rfl, rfl⟩) | (go_at_call 89; refine (c2 _).mono ?_; rintro e w' ⟨rfl, n, rfl⟩))
   go_ret2
   exact ⟨rfl, n, rfl⟩
  ·have e1 : Gf s (k : Int) = false := by simp [Gf]; omega
   have e2 : unV s (k : Int) = 0 := by unfold unV; rw [e1]; rfl
   have h1' : ¬ ((k : Int) < (ln s : Int)) := by omega
   rw [e1, e2]
   clear e1 e2
   go_enter Tryz.func48, Tryz.ntmps48
   go_wp2_with (first | (go_at_call 38; refine (c1 _).mono ?_; rintro e w' ⟨rfl, rfl⟩))
   go_ret2
   exact ⟨rfl, 0, rfl⟩
 ·have e1 : Gf s i = false := by simp [Gf]; omega
  have e2 : unV s i = 0 := by unfold unV; rw [e1]; rfl
  rw [e1, e2]
  clear e1 e2
  go_enter Tryz.func48, Tryz.ntmps48
  go_wp2_with (first | (go_at_call 38; refine (c1 _).mono ?_; rintro e w' ⟨rfl, rfl⟩))
  go_ret2
  exact ⟨rfl, 0, rfl⟩
open Go.RowKit
def slS (s : ByteArray) (f t : Int) : ByteArray := if max f 0 < min t (ln s) then s.extract (2 * (max f 0).toNat) (2 * (min t (ln s)).toNat) else { data := #[] }
theorem Zh (s : ByteArray) (f t : Int) (h0 : 0 ≤ f) (h1 : f < t) (h2 : t ≤ ln s) : slS s f t = s.extract (2 * f.toNat) (2 * t.toNat) := by
 unfold slS
 rw [Int.max_eq_left h0, Int.min_eq_left h2, if_pos h1]
theorem Pn (s : ByteArray) (f t : Int) (w : World) (hs : s.size ≤ maxLen) :
  Cq 109 #[.string s, .int .i64 f, .int .i64 t] (.string (slS s f t)) w := by
 have hl := Ap s
 have hm : (s.size : Int) ≤ 9223372036854775807 := by unfold maxLen at hs; omega
 have c1 := fun W => Cr s W hs
 have hsl : slS s f t = if max f 0 < min t (ln s) then s.extract (2 * (max f 0).toNat) (2 * (min t (ln s)).toNat) else { data := #[] } := rfl
 have hm1 : 0 ≤ max f 0 := by omega
 have hn1 : min t (ln s) ≤ ln s := by omega
 have hl2 : 2 * ((ln s : Nat) : Int) ≤ (s.size : Int) := by omega
 obtain ⟨m, hm0⟩ : ∃ m : Int, max f 0 = m := ⟨_, rfl⟩
 obtain ⟨n, hn0⟩ : ∃ n : Int, min t (ln s) = n := ⟨_, rfl⟩
 rw [hm0, hn0] at hsl
 rw [hm0] at hm1
 rw [hn0] at hn1
 by_cases h : m < n
 ·rw [if_pos h] at hsl
  have HS := Lh hsl
  have k1 : 2 * m ≤ 2 * n := by omega
  have k2 : 2 * n ≤ (s.size : Int) := by omega
  have k3 : 0 ≤ 2 * m := by omega
  have k4 : 0 ≤ 2 * n := by omega
  have e1 : (2 * m).toNat = 2 * m.toNat := by omega
  have e2 : (2 * n).toNat = 2 * n.toNat := by omega
  clear hsl hl hs hl2 hn1
  go_enter Tryz.func109, Tryz.ntmps109
  go_wp2_with (go_at_call 34; refine (c1 _).mono ?_; rintro e w' ⟨rfl, rfl⟩)
  go_ret
  exact ⟨by rw [HS.out]; rfl, rfl⟩
 ·rw [if_neg h] at hsl
  have HS := Lh hsl
  clear hsl hl hs hl2 hn1
  go_enter Tryz.func109, Tryz.ntmps109
  go_wp2_with (go_at_call 34; refine (c1 _).mono ?_; rintro e w' ⟨rfl, rfl⟩)
  go_ret
  exact ⟨by rw [HS.out]; rfl, rfl⟩
theorem We (s : ByteArray) (f t : Int) (w : World) (hs : s.size ≤ maxLen) :
  Cq 79 #[.string s, .int .i64 f, .int .i64 t] (.string (slS s f t)) w := by
 have hl := Ap s
 have hm : (s.size : Int) ≤ 9223372036854775807 := by unfold maxLen at hs; omega
 have c1 := fun W => Cw s W hs
 have hl2 : 2 * ((ln s : Nat) : Int) ≤ (s.size : Int) := by omega
 have main : ∀ m n : Int, max f 0 = m → min t (ln s) = n → (m = f ∧ ¬ f < 0 ∨ m = 0 ∧ f < 0) → (n = t ∧ ¬ ((ln s : Nat) : Int) < t ∨ n = (ln s : Nat) ∧ ((ln s : Nat) : Int) < t) →
   Cq 79 #[.string s, .int .i64 f, .int .i64 t] (.string (slS s f t)) w := by
  intro m n hm0 hn0 hf ht
  have hsl : slS s f t = if m < n then s.extract (2 * m.toNat) (2 * n.toNat) else { data := #[] } := by unfold slS; rw [hm0, hn0]
  have hm1 : 0 ≤ m := by omega
  have hn1 : n ≤ ln s := by omega
  clear hm0 hn0
  by_cases h : m < n
  ·rw [if_pos h] at hsl
   have HS := Lh hsl
   have k1 : 2 * m ≤ 2 * n := by omega
   have k2 : 2 * n ≤ (s.size : Int) := by omega
   have k3 : 0 ≤ 2 * m := by omega
   have k4 : 0 ≤ 2 * n := by omega
   have e1 : (2 * m).toNat = 2 * m.toNat := by omega
   have e2 : (2 * n).toNat = 2 * n.toNat := by omega
   clear hsl hl hs hl2 hn1
   rcases hf with ⟨rfl, hf⟩ | ⟨rfl, hf⟩ <;> rcases ht with ⟨rfl, ht⟩ | ⟨rfl, ht⟩
   all_goals
    go_enter Tryz.func79, Tryz.ntmps79
    go_wp2_with (go_at_call 38; refine (c1 _).mono ?_; rintro e w' ⟨rfl, rfl⟩)
    go_ret
    exact ⟨by rw [HS.out]; rfl, rfl⟩
  ·rw [if_neg h] at hsl
   have HS := Lh hsl
   clear hsl hl hs hl2 hn1
   rcases hf with ⟨rfl, hf⟩ | ⟨rfl, hf⟩ <;> rcases ht with ⟨rfl, ht⟩ | ⟨rfl, ht⟩
   all_goals
    go_enter Tryz.func79, Tryz.ntmps79
    go_wp2_with (go_at_call 38; refine (c1 _).mono ?_; rintro e w' ⟨rfl, rfl⟩)
    go_ret
    exact ⟨by rw [HS.out]; rfl, rfl⟩
 exact main (max f 0) (min t (ln s)) rfl rfl (by omega) (by omega)
open Go.RowKit
end
section
def spN (c : Nat) : Bool := spB ((c : Nat) : Int)
def enN (c : Nat) : Bool := enB ((c : Nat) : Int)
def stN (c : Nat) : Bool := stB ((c : Nat) : Int)
def ptN (c : Nat) : Bool := ptB ((c : Nat) : Int)
def hd0 (l : List Nat) : Nat := l.headD 0
/-! ### Between tokens -/
def Ef (l : List Nat) : Nat := (l.takeWhile fun c => !enN c).length
def Gb : List Nat → Option (Nat × Bool)
 | [] => none
 | c :: r => if c = 42 ∧ hd0 r = 47 then some (2, false) else (Gb r).map fun p => (p.1 + 1, enN c || p.2)
def Ow : List Nat → Option (Nat × Bool)
 | [] => some (0, false)
 | c :: r =>
  if enN c = true then some (1, true)
  else if spN c = true then some (1, false)
  else if c = 47 ∧ hd0 r = 47 then some (2 + Ef r.tail, false)
  else if c = 47 ∧ hd0 r = 42 then (Gb r.tail).map fun p => (2 + p.1, p.2)
  else some (0, false)
def Gy : Nat → List Nat → Nat × Bool × Bool
 | 0, _ => (0, false, true)
 | f + 1, l =>
  match Ow l with
  | none => (0, false, false)
  | some (0, _) => (0, false, true)
  | some (n + 1, b) =>
   let p := Gy f (l.drop (n + 1))
   (n + 1 + p.1, b || p.2.1, p.2.2)
def As (l : List Nat) : Nat × Bool × Bool := Gy (l.length + 1) l
/-! ### Escapes -/
def hxV (c : Nat) : Option Nat := if dgt c < 16 then some (dgt c) else none
def Eo : Nat → Nat → List Nat → Option Nat
 | _, 0, _ => none
 | a, 1, l => match l with
  | [] => none
  | c :: _ => (hxV c).map fun d => a * 16 + d
 | a, n + 2, l => match l with
  | [] => none
  | c :: r => (hxV c).bind fun d => Eo (a * 16 + d) (n + 1) r
def Od (c : Nat) : Nat := if c = 98 then 8 else if c = 116 then 9 else if c = 110 then 10 else if c = 118 then 11 else if c = 102 then 12 else if c = 114 then 13 else c
def Hn : List Nat → Option (List Nat × Nat)
 | [] => none
 | c :: r =>
  if c = 120 then (Eo 0 2 r).map fun v => ([v], 3)
  else if c = 117 then (Eo 0 4 r).map fun v => ([v], 5)
  else if enN c = true then some ([], if c = 13 ∧ hd0 r = 10 then 2 else 1)
  else if c = 48 then (if Ah (hd0 r) = true then none else some ([0], 1))
  else if Ah c = true then none
  else some ([Od c], 1)
def Jc : Nat → Nat → List Nat → Option (List Nat × Nat)
 | 0, _, _ => none
 | _ + 1, _, [] => none
 | f + 1, q, c :: r =>
  if enN c = true then none
  else if c = q then some ([], 1)
  else if c = 92 then
   match Hn r with
   | none => none
   | some (v, n) => (Jc f q (r.drop n)).map fun p => (v ++ p.1, 1 + n + p.2)
  else (Jc f q r).map fun p => (c :: p.1, 1 + p.2)
def Fa (q : Nat) (l : List Nat) : Option (List Nat × Nat) := Jc (l.length + 1) q l
def Hp (b : Bool) (c : Nat) : Bool := if b = true then stN c else ptN c
def Fn : Nat → Bool → List Nat → Option (List Nat × Bool × Nat)
 | 0, _, _ => some ([], false, 0)
 | _ + 1, _, [] => some ([], false, 0)
 | f + 1, b, c :: r =>
  if c = 92 then
   if hd0 r = 117 then
    match Eo 0 4 r.tail with
    | none => none
    | some v => if Hp b v = true then (Fn f false (r.drop 5)).map fun p => (v :: p.1, true, 6 + p.2.2) else none
   else none
  else if Hp b c = true then (Fn f false r).map fun p => (c :: p.1, p.2.1, 1 + p.2.2)
  else some ([], false, 0)
def Nj (l : List Nat) : Option (List Nat × Bool × Nat) := Fn (l.length + 1) true l


end
section
theorem Rf (s : ByteArray) (k : Nat) : unV s (k : Int) = hd0 ((us s).drop k) := by
 unfold unV Gf
 by_cases h : k < ln s
 ·rw [decide_eq_true (show (0 : Int) ≤ (k : Int) by omega), decide_eq_true (show (k : Int) < (ln s : Int) by omega), if_pos (by rfl), Int.toNat_natCast]
  unfold un hd0
  rw [List.getD_eq_getElem?_getD, List.headD_eq_head?_getD, List.head?_drop]
 ·rw [decide_eq_false (show ¬ (k : Int) < (ln s : Int) by omega), Bool.and_false, if_neg (by simp)]
  rw [List.drop_eq_nil_iff.2 (by rw [Ab]; omega)]
  rfl
theorem Yw (s : ByteArray) (k : Nat) : Gf s (k : Int) = !((us s).drop k).isEmpty := by
 unfold Gf
 rw [decide_eq_true (show (0 : Int) ≤ (k : Int) by omega), Bool.true_and, Bool.eq_iff_iff, decide_eq_true_iff, Bool.not_eq_true', List.isEmpty_eq_false_iff, Ne, List.drop_eq_nil_iff, Ab]
 omega
theorem An (s : ByteArray) (k : Nat) (w : World) (hs : s.size ≤ maxLen) :
  Cp 36 #[.string s, .int .i64 k] w fun e w' => e = .returned (.int .u16 ((hd0 ((us s).drop k) : Nat) : Int)) ∧ ∃ n, w' = w.drewN n := by
 have C1 := Lh (fun W => T5 s k W hs)
 rw [Rf] at C1
 obtain ⟨v, hv⟩ : ∃ v, hd0 ((us s).drop k) = v := ⟨_, rfl⟩
 rw [hv] at C1 ⊢
 go_enter Tryz.func36, Tryz.ntmps36
 go_wp2_with fail
 refine Dm (C1.out _) fun n => ?_
 go_wp2
 go_ret
 exact ⟨rfl, n, rfl⟩
theorem Ju (u : Int) (w : World) : Cq 70 #[.int .u16 u] (.bool (decide (48 ≤ u) && decide (u ≤ 57))) w := by
 go_enter Tryz.func70, Tryz.ntmps70
 go_wp2
 all_goals go_ret
 all_goals exact ⟨by simp [*] <;> omega, rfl⟩
theorem Au (u : Nat) (w : World) : Cq 70 #[.int .u16 u] (.bool (Ah u)) w := by
 have h : Ah u = (decide (48 ≤ (u : Int)) && decide ((u : Int) ≤ 57)) := by
  unfold Ah
  rw [Bool.eq_iff_iff]
  simp only [decide_eq_true_eq, Bool.and_eq_true]
  omega
 rw [h]
 exact Ju u w
theorem Ui (u : Nat) : Bh u = (Ah u || (decide (97 ≤ u) && decide (u ≤ 102)) || (decide (65 ≤ u) && decide (u ≤ 70))) := by
 unfold Bh Ah dgt
 rw [Bool.eq_iff_iff]
 simp only [decide_eq_true_eq, Bool.or_eq_true, Bool.and_eq_true]
 split
 ·omega
 ·split
  ·omega
  ·split <;> omega
theorem Kk (u : Int) (w : World) : Cq 196 #[.int .u16 u] (.bool ((decide (48 ≤ u) && decide (u ≤ 57)) || (decide (97 ≤ u) && decide (u ≤ 102)) || (decide (65 ≤ u) && decide (u ≤ 70)))) w := by
 have C := Lh (fun W => Ju u W)
 obtain ⟨b, hb⟩ : ∃ b, (decide (48 ≤ u) && decide (u ≤ 57)) = b := ⟨_, rfl⟩
 rw [hb] at C ⊢
 clear hb
 cases b
 all_goals go_enter Tryz.func196, Tryz.ntmps196
 all_goals go_wp2_with (go_at_call 70; refine (C.out _).mono ?_; rintro e w' ⟨rfl, rfl⟩)
 all_goals go_ret
 all_goals exact ⟨by simp [*] <;> omega, rfl⟩
theorem Gd (u : Nat) (w : World) : Cq 196 #[.int .u16 u] (.bool (Bh u)) w := by
 have h : Bh u = ((decide (48 ≤ (u : Int)) && decide ((u : Int) ≤ 57)) || (decide (97 ≤ (u : Int)) && decide ((u : Int) ≤ 102)) || (decide (65 ≤ (u : Int)) && decide ((u : Int) ≤ 70))) := by
  rw [Ui]
  unfold Ah
  rw [Bool.eq_iff_iff]
  simp only [decide_eq_true_eq, Bool.or_eq_true, Bool.and_eq_true]
  omega
 rw [h]
 exact Kk u w
theorem Xa (u : Nat) (w : World) (h : Bh u = true) : Cq 251 #[.int .u16 u] (.int .u16 ((dgt u : Nat) : Int)) w := by
 rw [Ui] at h
 have hd : (97 ≤ u ∧ u ≤ 102 ∧ (dgt u : Int) = (u : Int) - 97 + 10) ∨ (65 ≤ u ∧ u ≤ 70 ∧ (dgt u : Int) = (u : Int) - 65 + 10) ∨ (48 ≤ u ∧ u ≤ 57 ∧ (dgt u : Int) = (u : Int) - 48) := by
  unfold Ah at h
  simp only [decide_eq_true_eq, Bool.or_eq_true, Bool.and_eq_true] at h
  unfold dgt
  rcases h with (h | h) | h
  ·right; right
   rw [if_pos (by omega)]
   omega
  ·left
   rw [if_neg (by omega), if_pos (by omega)]
   omega
  ·right; left
   rw [if_neg (by omega), if_neg (by omega), if_pos (by omega)]
   omega
 obtain ⟨d, hdd⟩ : ∃ d, dgt u = d := ⟨_, rfl⟩
 rw [hdd] at hd ⊢
 clear h hdd
 rcases hd with ⟨h1, h2, h3⟩ | ⟨h1, h2, h3⟩ | ⟨h1, h2, h3⟩
 ·have t1 : (97 : Int) ≤ (u : Int) := by omega
  have t2 : (u : Int) ≤ 102 := by omega
  have k1 : (u : Int) - 97 + 10 = (d : Int) := h3.symm
  clear h1 h2 h3
  go_enter Tryz.func251, Tryz.ntmps251
  go_wp2
  go_ret
  exact ⟨rfl, rfl⟩
 ·have t0 : ¬ (97 : Int) ≤ (u : Int) := by omega
  have t1 : (65 : Int) ≤ (u : Int) := by omega
  have t2 : (u : Int) ≤ 70 := by omega
  have k1 : (u : Int) - 65 + 10 = (d : Int) := h3.symm
  clear h1 h2 h3
  go_enter Tryz.func251, Tryz.ntmps251
  go_wp2
  go_ret
  exact ⟨rfl, rfl⟩
 ·have t0 : ¬ (97 : Int) ≤ (u : Int) := by omega
  have t1 : ¬ (65 : Int) ≤ (u : Int) := by omega
  have t2 : (48 : Int) ≤ (u : Int) := by omega
  have t3 : (u : Int) ≤ 57 := by omega
  have k1 : (u : Int) - 48 = (d : Int) := h3.symm
  clear h1 h2 h3
  go_enter Tryz.func251, Tryz.ntmps251
  go_wp2
  go_ret
  exact ⟨rfl, rfl⟩
theorem Ahg {a b : Int} (h : a = b) : Ending.returned (.int .u16 a) = .returned (.int .u16 b) := by rw [h]
theorem Dc (u : Nat) (w : World) : Cq 194 #[.int .u16 u] (.int .u16 ((Od u : Nat) : Int)) w := by
 go_enter Tryz.func194, Tryz.ntmps194
 go_wp2
 all_goals go_ret
 all_goals simp only [beq_iff_eq, beq_eq_false_iff_ne, ne_eq] at *
 all_goals refine ⟨Ahg ?_, trivial⟩
 all_goals unfold Od
 all_goals (repeat' split) <;> omega


end
section
theorem Bw {L : List Nat} {k : Nat} (h : k < L.length) : ∃ c, L.drop k = c :: L.drop (k + 1) ∧ hd0 (L.drop k) = c := ⟨L[k], List.drop_eq_getElem_cons h, by rw [List.drop_eq_getElem_cons h]; rfl⟩
theorem Fl (u : Nat) (w : World) : Cq 100 #[.int .u16 u] (.bool (enN u)) w := Tp u w
theorem Aif (u : Nat) (w : World) : Cq 101 #[.int .u16 u] (.bool (spN u)) w := Px u w
theorem U5 (s : ByteArray) (k : Nat) (w : World) (hs : s.size ≤ 140737488355328) (hk : k ≤ ln s) :
  Cp 102 #[.string s, .int .i64 k] w fun e w' => e = .returned (.int .i64 ((k + Ef ((us s).drop k) : Nat) : Int)) ∧ ∃ n, w' = w.drewN n := by
 have hs63 : s.size ≤ maxLen := by unfold maxLen; omega
 have C1 := Lh (fun W => Cr s W hs63)
 have C2 := Lh (fun (j : Nat) W => An s j W hs63)
 have hln := Ap s
 have hl : ((ln s : Nat) : Int) ≤ 140737488355328 := by omega
 have hkl : (k : Int) ≤ (ln s : Int) := by omega
 obtain ⟨R, hR⟩ : ∃ R, k + Ef ((us s).drop k) = R := ⟨_, rfl⟩
 rw [hR]
 have HR := Lh hR
 have HK := Lh hk
 clear hs hs63 hln hR hk
 go_enter Tryz.func102, Tryz.ntmps102
 go_wp2
 go_loopw [1] (fun v wr => ∃ j : Nat, v = .int .i64 j ∧ j ≤ ln s ∧ Hid (R = j + Ef ((us s).drop j)) ∧ ∃ n, wr = w.drewN n) (fun v _ => ln s - (intOf v).toNat)
 case atStart => exact ⟨k, rfl, HK.out, Lh HR.out.symm, 0, rfl⟩
 case round =>
  obtain ⟨j, rfl, hj, HJ, n0, rfl⟩ := hrel
  by_cases hlt : j < ln s
  ·obtain ⟨c, hc1, hc2⟩ := Bw (L := us s) (k := j) (by rw [Ab]; exact hlt)
   have C2' := Lh (fun W => C2.out j W)
   rw [hc2] at C2'
   have C3 := Lh (fun W => Fl c W)
   have t1 : (j : Int) < (ln s : Int) := by omega
   cases he : enN c
   ·rw [he] at C3
    have HJ2 : Hid (R = (j + 1) + Ef ((us s).drop (j + 1))) := Lh (by
     rw [HJ.out, hc1]
     unfold Ef
     rw [List.takeWhile_cons, he, if_pos (by rfl), List.length_cons]
     omega)
    clear hc1 hc2 he
    go_wp2_with (first | (go_at_call 34; refine (C1.out _).mono ?_; rintro e w' ⟨rfl, rfl⟩) | (go_at_call 36; refine (C2'.out _).mono ?_; rintro e w' ⟨rfl, n1, rfl⟩) | (go_at_call 100; refine (C3.out _).mono ?_; rintro e w' ⟨rfl, rfl⟩))
    exact ⟨⟨j + 1, by go_num, by omega, HJ2, n0 + n1, by first | rfl | rw [World.drewN_drewN]⟩, by simp [intOf]; omega⟩
   ·rw [he] at C3
    have HJ2 : Hid (R = j) := Lh (by
     rw [HJ.out, hc1]
     unfold Ef
     rw [List.takeWhile_cons, he, if_neg (by simp)]
     rfl)
    clear hc1 hc2 he
    go_wp2_with (first | (go_at_call 34; refine (C1.out _).mono ?_; rintro e w' ⟨rfl, rfl⟩) | (go_at_call 36; refine (C2'.out _).mono ?_; rintro e w' ⟨rfl, n1, rfl⟩) | (go_at_call 100; refine (C3.out _).mono ?_; rintro e w' ⟨rfl, rfl⟩))
    go_ret
    exact ⟨by rw [HJ2.out]; rfl, n0 + n1, by first | rfl | rw [World.drewN_drewN]⟩
  ·have hj2 : j = ln s := by omega
   have HJ2 : Hid (R = j) := Lh (by
    rw [HJ.out, List.drop_eq_nil_iff.2 (by rw [Ab]; omega)]
    rfl)
   have t1 : ¬ (j : Int) < (ln s : Int) := by omega
   go_wp2_with (go_at_call 34; refine (C1.out _).mono ?_; rintro e w' ⟨rfl, rfl⟩)
   go_ret
   exact ⟨by rw [HJ2.out, hj2]; rfl, n0, rfl⟩


end
section
def Bu : Nat → Nat → List Nat → Option Nat
 | a, 0, _ => some a
 | a, n + 1, l => if Bh (hd0 l) = true then Bu (a * 16 + dgt (hd0 l)) n l.tail else none
theorem Hg : ∀ (n a : Nat) (l : List Nat), Eo a (n + 1) l = Bu a (n + 1) l
 | 0, a, [] => rfl
 | 0, a, c :: r => by
  show (hxV c).map _ = if Bh c = true then _ else none
  unfold hxV Bh
  by_cases h : dgt c < 16
  ·rw [if_pos h, if_pos (by simpa using h)]
   rfl
  ·rw [if_neg h, if_neg (by simpa using h)]
   rfl
 | n + 1, a, [] => rfl
 | n + 1, a, c :: r => by
  show (hxV c).bind _ = if Bh c = true then Bu (a * 16 + dgt c) (n + 1) r else none
  unfold hxV
  by_cases h : dgt c < 16
  ·rw [if_pos h, if_pos (by unfold Bh; simpa using h)]
   exact Hg n _ r
  ·rw [if_neg h, if_neg (by unfold Bh; simpa using h)]
   rfl
theorem Ai9 (v d : Nat) (hv : v < 4096) (hd : d < 16) : bits BinOp.or IntKind.u16 ((v : Int) * 16) (d : Int) = ((v * 16 + d : Nat) : Int) := by
 have e : ((v : Int) * 16) = ((v * 16 : Nat) : Int) := by omega
 rw [e, u16_or_nat _ _ (by omega) (by omega)]
 have := Nat.two_pow_add_eq_or_of_lt (i := 4) (b := d) (by omega) v
 rw [show v * 16 = 2 ^ 4 * v by omega, ← this]
def Fe : Option Nat → Ending
 | none => .returned (.tuple #[.int .u16 0, .bool false])
 | some v => .returned (.tuple #[.int .u16 (v : Nat), .bool true])
theorem E5 (s : ByteArray) (k n : Nat) (w : World) (hs : s.size ≤ 140737488355328) (hk : k ≤ 140737488355328) (hn : n ≤ 4) :
  Cp 193 #[.string s, .int .i64 k, .int .i64 n] w fun e w' => e = Fe (Bu 0 n ((us s).drop k)) ∧ ∃ m, w' = w.drewN m := by
 have hs63 : s.size ≤ maxLen := by unfold maxLen; omega
 have C1 := Lh (fun (j : Nat) W => An s (k + j) W hs63)
 obtain ⟨R, hR⟩ : ∃ R, Bu 0 n ((us s).drop k) = R := ⟨_, rfl⟩
 rw [hR]
 have HR := Lh hR
 clear hs hs63 hR
 go_enter Tryz.func193, Tryz.ntmps193
 go_wp2
 go_loopw [8, 12] (fun sv iv wr => ∃ (v i : Nat), sv = .int .u16 v ∧ iv = .int .i64 i ∧ i ≤ n ∧ Hid (v < 16 ^ i) ∧ Hid (R = Bu v (n - i) ((us s).drop (k + i))) ∧ ∃ m, wr = w.drewN m) (fun _ iv _ => n - (intOf iv).toNat)
 case atStart => exact ⟨0, 0, rfl, rfl, Nat.zero_le _, Lh (by decide), Lh HR.out.symm, 0, rfl⟩
 case round =>
  obtain ⟨v, i, rfl, rfl, hi, HV, HJ, n0, rfl⟩ := hrel
  by_cases hlt : i < n
  ·have C2 := Lh (C1.out i)
   have hv : v < 4096 := by
    have h1 := HV.out
    have h2 : 16 ^ i ≤ 16 ^ 3 := Nat.pow_le_pow_right (by omega) (by omega)
    omega
   have hs1 : Bu v (n - i) ((us s).drop (k + i)) = if Bh (hd0 ((us s).drop (k + i))) = true then Bu (v * 16 + dgt (hd0 ((us s).drop (k + i)))) (n - (i + 1)) ((us s).drop (k + (i + 1))) else none := by
    rw [show n - i = (n - (i + 1)) + 1 by omega, Bu, List.tail_drop]
    rfl
   obtain ⟨c, hc⟩ : ∃ c, hd0 ((us s).drop (k + i)) = c := ⟨_, rfl⟩
   rw [hc] at C2 hs1
   rw [show (((k + i : Nat) : Int)) = (k : Int) + (i : Int) by omega] at C2
   have C3 := Lh (fun W => Gd c W)
   have t1 : (i : Int) < (n : Int) := by omega
   cases hx : Bh c
   ·rw [hx] at C3
    rw [hx, if_neg (by simp)] at hs1
    have HJ2 : Hid (R = none) := Lh (by rw [HJ.out, hs1])
    clear hs1 hx hc
    go_wp2_with fail
    refine Dm (C2.out _) fun n1 => ?_
    go_wp2_with fail
    refine Sm (C3.out _) ?_
    go_wp2
    go_ret2
    exact ⟨by rw [HJ2.out]; rfl, n0 + n1, by first | rfl | simp⟩
   ·have hd16 : dgt c < 16 := by unfold Bh at hx; simpa using hx
    have C4 := Lh (fun W => Xa c W hx)
    rw [hx] at C3
    rw [hx, if_pos (by rfl)] at hs1
    obtain ⟨d, hd⟩ : ∃ d, dgt c = d := ⟨_, rfl⟩
    rw [hd] at C4 hs1 hd16
    have HJ2 : Hid (R = Bu (v * 16 + d) (n - (i + 1)) ((us s).drop (k + (i + 1)))) := Lh (by rw [HJ.out, hs1])
    have HV2 : Hid (v * 16 + d < 16 ^ (i + 1)) := Lh (by have := HV.out; rw [Nat.pow_succ]; omega)
    have HO := Lh (Ai9 v d hv hd16)
    clear hs1 hx hc hd
    go_wp2_with fail
    refine Dm (C2.out _) fun n1 => ?_
    go_wp2_with fail
    refine Sm (C3.out _) ?_
    go_wp2_with fail
    refine Sm (C4.out _) ?_
    go_wp2
    go_roundw
    case rel => exact ⟨v * 16 + d, i + 1, by rw [HO.out], by go_num, by omega, HV2, HJ2, n0 + n1, by first | rfl | simp⟩
    case measure => simp [intOf]; omega
  ·have HJ2 : Hid (R = some v) := Lh (by rw [HJ.out, show n - i = 0 by omega]; rfl)
   have t1 : ¬ (i : Int) < (n : Int) := by omega
   go_wp2
   go_ret2
   exact ⟨by rw [HJ2.out]; rfl, n0, rfl⟩


end
section
def Ai3 (k c : Nat) (o : Option Nat) : Ending :=
 if c = 117 then (match o with
  | none => .returned (.tuple #[.int .u16 0, .int .i64 ((k + 5 : Nat) : Int), .bool false])
  | some v => .returned (.tuple #[.int .u16 (v : Nat), .int .i64 ((k + 5 : Nat) : Int), .bool true]))
 else .returned (.tuple #[.int .u16 0, .int .i64 0, .bool false])
theorem Tg (s : ByteArray) (k : Nat) (w : World) (hs : s.size ≤ 140737488355328) (hk : k ≤ 140737488355327) :
  Cp 105 #[.string s, .int .i64 k] w fun e w' => e = Ai3 k (hd0 ((us s).drop k)) (Bu 0 4 ((us s).drop (k + 1))) ∧ ∃ n, w' = w.drewN n := by
 have hs63 : s.size ≤ maxLen := by unfold maxLen; omega
 have C1 := Lh (fun W => An s k W hs63)
 have C2 : ∀ W, Cp 193 #[.string s, .int .i64 ((k : Int) + 1), .int .i64 4] W fun e w' => e = Fe (Bu 0 4 ((us s).drop (k + 1))) ∧ ∃ m, w' = W.drewN m := fun W => by
  rw [show (k : Int) + 1 = ((k + 1 : Nat) : Int) by omega]; exact E5 s (k + 1) 4 W hs (by omega) (by omega)
 have C2 := Lh C2
 have hkl : (k : Int) ≤ 140737488355327 := by omega
 obtain ⟨c, hc⟩ : ∃ c, hd0 ((us s).drop k) = c := ⟨_, rfl⟩
 obtain ⟨o, ho⟩ : ∃ o, Bu 0 4 ((us s).drop (k + 1)) = o := ⟨_, rfl⟩
 rw [hc] at C1 ⊢
 rw [ho] at C2 ⊢
 clear hs hs63 hk hc ho
 unfold Ai3
 by_cases h : c = 117
 ·subst h
  rw [if_pos rfl]
  cases o
  all_goals
   go_enter Tryz.func105, Tryz.ntmps105
   go_wp2_with fail
   refine Dm (C1.out _) fun n1 => ?_
   go_wp2_with fail
   refine Dm (C2.out _) fun n2 => ?_
   simp only [Fe]
   go_wp2
   go_ret3
   exact ⟨rfl, n1 + n2, by first | rfl | simp⟩
 ·rw [if_neg h]
  have g1 : (c : Int) ≠ 117 := by omega
  clear h
  go_enter Tryz.func105, Tryz.ntmps105
  go_wp2_with fail
  refine Dm (C1.out _) fun n1 => ?_
  go_wp2
  go_ret3
  exact ⟨rfl, n1, by first | rfl | simp⟩
theorem Ab8 (c i : Nat) (w : World) :
  Cq 49 #[.int .u16 c, .int .i64 i] (.bool (Hp (i == 0) c)) w := by
 have C1 := Lh (fun W => La c W)
 have C2 := Lh (fun W => U9 c W)
 by_cases h : i = 0
 ·subst h
  have e : Hp (0 == 0) c = stB c := rfl
  rw [e]
  clear e
  go_enter Tryz.func49, Tryz.ntmps49
  go_wp2_with fail
  refine Sm (C1.out _) ?_
  go_wp2
  go_ret
  exact ⟨rfl, rfl⟩
 ·have e : Hp (i == 0) c = ptB c := by
   unfold Hp
   rw [if_neg (by simpa using h)]
   rfl
  rw [e]
  have g1 : (i : Int) ≠ 0 := by omega
  clear e h
  go_enter Tryz.func49, Tryz.ntmps49
  go_wp2_with fail
  refine Sm (C2.out _) ?_
  go_wp2
  go_ret
  exact ⟨rfl, rfl⟩


end
end Go.Proofs.YtmimeejjaneedaaGreatDoor
