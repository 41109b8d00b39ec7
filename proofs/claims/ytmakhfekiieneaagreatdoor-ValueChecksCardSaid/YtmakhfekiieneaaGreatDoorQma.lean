/-
  Merged texts (Shelf, BA, BB, BC).
-/
import Derived.Shelf.Strings.SlTrimAscii
import Derived.Shelf.Strings.Builder1
import Derived.Shelf.Strings.Builder2
import Derived.Shelf.Strings.OnBuilder
import Derived.Shelf.Strings.Trim
import Derived.Shelf.Small.Utf8
import Derived.Shelf.Small.Bits
import Derived.Shelf.Small.Strs
import Derived.Shelf.Small.Wraps
import Derived.Shelf.Strings.BuilderRune
import Derived.Shelf.Utf8.AppendRune
import Derived.Shelf.Strings.BuilderF
import Derived.Shelf.Strings.BuilderK
import Derived.Shelf.Strings.BuilderRune
import Derived.Shelf.Utf8.AppendRune
import Derived.Shelf.Strconv.Itoa0
import Derived.Shelf.Strconv.Itoa1
import Derived.Shelf.LaysM
import Derived.Shelf.Strconv.Itoa2
import Derived.Shelf.Strconv.Itoa3
import Derived.Shelf.Strings.Search1
import Derived.Shelf.Strings.Prefix
import Derived.Shelf.Unicode.Latin
import Derived.Shelf.Strings.Runes
import Derived.Shelf.Strings.AsciiSet
import Derived.Shelf.Bits.Mul64
import Derived.Shelf.Strings.Repeat
import Derived.Shelf.Unicode.DecodeSlow
import Derived.Shelf.Unicode.CaseLookup
import Derived.Shelf.Unicode.CaseConvert
import Derived.Shelf.Unicode.CaseTo
import Derived.Shelf.Unicode.CaseLaid
import Derived.Test.YtmakhfekiieneaaGreatDoorProg
import GoSem.Core.Utf8
import Derived.WalkKit
import Derived.WalkSpells
import Derived.WalkLawsBesides
import Derived.Deep.QuietTactic
import Derived.BigQuiet
import Derived.Lib.Hide
import Derived.Deep.OwnRows
import Derived.Laws.CopyOwn
import Derived.Deep.AppendLies
import Derived.Lib.BitFns
import Derived.Lib.Strings
import Derived.Laws.BitsAllLaws
import Derived.Lib.LaidTab
import Derived.ProofKit
import Derived.OpenShut
import Derived.SizedLaws
import Derived.Laws.BytesString
import Derived.Laws.Cells
import Derived.Deep.RegionWith
import Derived.BigRegion
import Derived.Test.YtmakhfekiieneaaGreatDoorRows
import Derived.Lib.ItoaNum
import Derived.Deep.DeepCutAuto
import Ieee.Arith
import GoSem.Core.Float
namespace Go.Proofs.YtmakhfekiieneaaGreatDoor
open Go.RowKit
abbrev Cp := Calls Tryz.prog
abbrev Ct (f : FuncId) (a : Array Value) (v : Value) (w : World) : Prop := Calls Tryz.prog f a w fun e w' => e = .returned v ∧ Below w.heap.size w w'
abbrev Cq (f : FuncId) (a : Array Value) (v : Value) (w : World) : Prop := Calls Tryz.prog f a w fun e w' => e = .returned v ∧ w = w'
theorem Lh {p : Prop} (h : p) : Hid p := Lib.hid h
theorem Sm {P : Program} {f : FuncId} {x : Array Value} {w : World} {E : Ending} {R : Ending → World → Prop} (h : Calls P f x w fun e w' => e = E ∧ w = w') (k : R E w) : Calls P f x w R := h.mono fun _ _ ⟨a, b⟩ => a ▸ b ▸ k
theorem Dm {P : Program} {f : FuncId} {x : Array Value} {w : World} {E : Ending} {R : Ending → World → Prop} (h : Calls P f x w fun e w' => e = E ∧ ∃ n, w' = w.drewN n) (k : ∀ n, R E (w.drewN n)) : Calls P f x w R := h.mono fun _ _ ⟨a, n, b⟩ => by subst a; subst b; exact k n
theorem Bm {P : Program} {f : FuncId} {x : Array Value} {w : World} {E : Ending} {Q : World → Prop} {R : Ending → World → Prop} (h : Calls P f x w fun e w' => e = E ∧ Q w') (k : ∀ w', Q w' → R E w') : Calls P f x w R := h.mono fun _ w' ⟨a, b⟩ => by subst a; exact k w' b
end Go.Proofs.YtmakhfekiieneaaGreatDoor
open Go.RowKit
set_option maxRecDepth 100000
set_option maxHeartbeats 40000000
namespace Go.Proofs.YtmakhfekiieneaaGreatDoor
end Go.Proofs.YtmakhfekiieneaaGreatDoor
namespace Go.Proofs
open Go.Shelf
def Tryz.lays169_ren : Go.Shelf.Ren := ⟨fun | 169 => 82 | n => n, fun | 70 => 77 | 9 => 9 | 0 => 0 | 72 => 79 | 37 => 66 | 127 => 110 | 3 => 3 | 5 => 5 | n => n, fun | n => n⟩
theorem Tryz.lays169 : Go.Proofs.Lays.n169 Tryz.prog Tryz.lays169_ren := {
 mixed := by kernel_rfl
 f169 := Tryz.func82.trans (congrArg some (by kernel_rfl))
 t0 := Tryz.underlying0
 a0 := Tryz.isAgg0
 z0 := Tryz.sizeOf0
 v0 := Tryz.zeroValue0
 t3 := Tryz.underlying3
 a3 := Tryz.isAgg3
 z3 := Tryz.sizeOf3
 v3 := Tryz.zeroValue3
 t9 := Tryz.underlying9
 a9 := Tryz.isAgg9
 z9 := Tryz.sizeOf9
 v9 := Tryz.zeroValue9
 t37 := Tryz.underlying66
 a37 := Tryz.isAgg66
 z37 := Tryz.sizeOf66
 v37 := Tryz.zeroValue66
 t70 := Tryz.underlying77
 a70 := Tryz.isAgg77
 z70 := Tryz.sizeOf77
 v70 := Tryz.zeroValue77
 t72 := Tryz.underlying79
 a72 := Tryz.isAgg79
 z72 := Tryz.sizeOf79
 v72 := Tryz.zeroValue79
 t127 := Tryz.underlying110
 a127 := Tryz.isAgg110
 z127 := Tryz.sizeOf110
 v127 := Tryz.zeroValue110 }
theorem Tryz.Builder_Extra_169 : Builder.Extra Tryz.prog Tryz.lays169_ren := {
 sizeBuilder := by kernel_rfl
 liesBuilder := by kernel_rfl
 t5 := Tryz.underlying5
 a5 := Tryz.isAgg5
 z5 := Tryz.sizeOf5
 v5 := Tryz.zeroValue5
 infoByte := by kernel_rfl
 cellsByte := by kernel_rfl
 sizeByte := by kernel_rfl
 neB5 := by decide }
def Tryz.lays165_ren : Go.Shelf.Ren := ⟨fun | 165 => 80 | 240 => 112 | 241 => 113 | 276 => 142 | 277 => 143 | n => n, fun | 70 => 77 | 3 => 3 | 0 => 0 | 4 => 4 | 9 => 9 | 20 => 20 | 72 => 79 | 37 => 66 | 164 => 131 | 5 => 5 | n => n, fun | n => n⟩
theorem Tryz.lays165 : Go.Proofs.Lays.n165 Tryz.prog Tryz.lays165_ren := {
 mixed := by kernel_rfl
 f165 := Tryz.func80.trans (congrArg some (by kernel_rfl))
 f240 := Tryz.func112.trans (congrArg some (by kernel_rfl))
 f241 := Tryz.func113.trans (congrArg some (by kernel_rfl))
 f276 := Tryz.func142.trans (congrArg some (by kernel_rfl))
 f277 := Tryz.func143.trans (congrArg some (by kernel_rfl))
 t0 := Tryz.underlying0
 a0 := Tryz.isAgg0
 z0 := Tryz.sizeOf0
 v0 := Tryz.zeroValue0
 t3 := Tryz.underlying3
 a3 := Tryz.isAgg3
 z3 := Tryz.sizeOf3
 v3 := Tryz.zeroValue3
 t4 := Tryz.underlying4
 a4 := Tryz.isAgg4
 z4 := Tryz.sizeOf4
 v4 := Tryz.zeroValue4
 t9 := Tryz.underlying9
 a9 := Tryz.isAgg9
 z9 := Tryz.sizeOf9
 v9 := Tryz.zeroValue9
 t20 := Tryz.underlying20
 a20 := Tryz.isAgg20
 z20 := Tryz.sizeOf20
 v20 := Tryz.zeroValue20
 t37 := Tryz.underlying66
 a37 := Tryz.isAgg66
 z37 := Tryz.sizeOf66
 v37 := Tryz.zeroValue66
 t70 := Tryz.underlying77
 a70 := Tryz.isAgg77
 z70 := Tryz.sizeOf77
 v70 := Tryz.zeroValue77
 t72 := Tryz.underlying79
 a72 := Tryz.isAgg79
 z72 := Tryz.sizeOf79
 v72 := Tryz.zeroValue79
 t164 := Tryz.underlying131
 a164 := Tryz.isAgg131
 z164 := Tryz.sizeOf131
 v164 := Tryz.zeroValue131 }
theorem Tryz.Builder_Extra_165 : Builder.Extra Tryz.prog Tryz.lays165_ren := {
 sizeBuilder := by kernel_rfl
 liesBuilder := by kernel_rfl
 t5 := Tryz.underlying5
 a5 := Tryz.isAgg5
 z5 := Tryz.sizeOf5
 v5 := Tryz.zeroValue5
 infoByte := by kernel_rfl
 cellsByte := by kernel_rfl
 sizeByte := by kernel_rfl
 neB5 := by decide }
open Go.RowKit in
theorem Tryz.Builder_Grow_fresh (B b n : Nat) (w : World) (hB : B ≤ b) (hbk : w.heap[b]? = some (.cells #[.pointer none, .slice none 0 0] 79 (0, 0))) (hBw : B ≤ w.heap.size) (hn : n ≤ 281474976710656) :
  Calls Tryz.prog 80 #[.pointer (some ⟨b, 0, none⟩), .int .i64 n] w fun e w' => e = .returned (.tuple #[]) ∧ (Lib.BuilderAt 79 5 B b (.pointer (some ⟨b, 0, none⟩)) [] w' ∧ Below B w w') := Any.Builder_Grow_fresh Tryz.lays165 Tryz.Builder_Extra_165 B b n w hB hbk hBw hn
def Tryz.lays159_ren : Go.Shelf.Ren := ⟨fun | 159 => 97 | 165 => 80 | 166 => 127 | 167 => 92 | 169 => 82 | 230 => 128 | 204 => 129 | 240 => 112 | 241 => 113 | 197 => 165 | 118 => 166 | 168 => 167 | 270 => 168 | 262 => 169 | 276 => 142 | 277 => 143 | 260 => 214 | 242 => 215 | 313 => 216 | 278 => 239 | 274 => 240 | 275 => 241 | n => n, fun | 9 => 9 | 4 => 4 | 3 => 3 | 5 => 5 | 72 => 79 | 0 => 0 | 76 => 117 | 75 => 89 | 107 => 120 | 70 => 77 | 20 => 20 | 37 => 66 | 127 => 110 | 21 => 21 | 105 => 161 | 164 => 131 | 162 => 202 | 203 => 200 | 119 => 217 | 46 => 85 | 139 => 220 | 138 => 219 | 51 => 129 | 160 => 221 | 208 => 241 | 206 => 239 | 80 => 82 | n => n, fun | 13 => 2 | 3 => 4 | 4 => 5 | n => n⟩
theorem Tryz.lays159 : Go.Proofs.Lays.n159 Tryz.prog Tryz.lays159_ren := {
 mixed := by kernel_rfl
 f118 := Tryz.func166.trans (congrArg some (by kernel_rfl))
 f159 := Tryz.func97.trans (congrArg some (by kernel_rfl))
 f165 := Tryz.func80.trans (congrArg some (by kernel_rfl))
 f166 := Tryz.func127.trans (congrArg some (by kernel_rfl))
 f167 := Tryz.func92.trans (congrArg some (by kernel_rfl))
 f168 := Tryz.func167.trans (congrArg some (by kernel_rfl))
 f169 := Tryz.func82.trans (congrArg some (by kernel_rfl))
 f197 := Tryz.func165.trans (congrArg some (by kernel_rfl))
 f204 := Tryz.func129.trans (congrArg some (by kernel_rfl))
 f230 := Tryz.func128.trans (congrArg some (by kernel_rfl))
 f240 := Tryz.func112.trans (congrArg some (by kernel_rfl))
 f241 := Tryz.func113.trans (congrArg some (by kernel_rfl))
 f242 := Tryz.func215.trans (congrArg some (by kernel_rfl))
 f260 := Tryz.func214.trans (congrArg some (by kernel_rfl))
 f262 := Tryz.func169.trans (congrArg some (by kernel_rfl))
 f270 := Tryz.func168.trans (congrArg some (by kernel_rfl))
 f274 := Tryz.func240.trans (congrArg some (by kernel_rfl))
 f275 := Tryz.func241.trans (congrArg some (by kernel_rfl))
 f276 := Tryz.func142.trans (congrArg some (by kernel_rfl))
 f277 := Tryz.func143.trans (congrArg some (by kernel_rfl))
 f278 := Tryz.func239.trans (congrArg some (by kernel_rfl))
 f313 := Tryz.func216.trans (congrArg some (by kernel_rfl))
 t0 := Tryz.underlying0
 a0 := Tryz.isAgg0
 z0 := Tryz.sizeOf0
 v0 := Tryz.zeroValue0
 t3 := Tryz.underlying3
 a3 := Tryz.isAgg3
 z3 := Tryz.sizeOf3
 v3 := Tryz.zeroValue3
 t4 := Tryz.underlying4
 a4 := Tryz.isAgg4
 z4 := Tryz.sizeOf4
 v4 := Tryz.zeroValue4
 t5 := Tryz.underlying5
 a5 := Tryz.isAgg5
 z5 := Tryz.sizeOf5
 v5 := Tryz.zeroValue5
 t9 := Tryz.underlying9
 a9 := Tryz.isAgg9
 z9 := Tryz.sizeOf9
 v9 := Tryz.zeroValue9
 t20 := Tryz.underlying20
 a20 := Tryz.isAgg20
 z20 := Tryz.sizeOf20
 v20 := Tryz.zeroValue20
 t21 := Tryz.underlying21
 a21 := Tryz.isAgg21
 z21 := Tryz.sizeOf21
 v21 := Tryz.zeroValue21
 t37 := Tryz.underlying66
 a37 := Tryz.isAgg66
 z37 := Tryz.sizeOf66
 v37 := Tryz.zeroValue66
 t46 := Tryz.underlying85
 a46 := Tryz.isAgg85
 z46 := Tryz.sizeOf85
 v46 := Tryz.zeroValue85
 t51 := Tryz.underlying129
 a51 := Tryz.isAgg129
 z51 := Tryz.sizeOf129
 v51 := Tryz.zeroValue129
 t70 := Tryz.underlying77
 a70 := Tryz.isAgg77
 z70 := Tryz.sizeOf77
 v70 := Tryz.zeroValue77
 t72 := Tryz.underlying79
 a72 := Tryz.isAgg79
 z72 := Tryz.sizeOf79
 v72 := Tryz.zeroValue79
 t75 := Tryz.underlying89
 a75 := Tryz.isAgg89
 z75 := Tryz.sizeOf89
 v75 := Tryz.zeroValue89
 t76 := Tryz.underlying117
 a76 := Tryz.isAgg117
 z76 := Tryz.sizeOf117
 v76 := Tryz.zeroValue117
 t105 := Tryz.underlying161
 a105 := Tryz.isAgg161
 z105 := Tryz.sizeOf161
 v105 := Tryz.zeroValue161
 t107 := Tryz.underlying120
 a107 := Tryz.isAgg120
 z107 := Tryz.sizeOf120
 v107 := Tryz.zeroValue120
 t119 := Tryz.underlying217
 a119 := Tryz.isAgg217
 z119 := Tryz.sizeOf217
 t127 := Tryz.underlying110
 a127 := Tryz.isAgg110
 z127 := Tryz.sizeOf110
 v127 := Tryz.zeroValue110
 t138 := Tryz.underlying219
 a138 := Tryz.isAgg219
 z138 := Tryz.sizeOf219
 v138 := Tryz.zeroValue219
 t139 := Tryz.underlying220
 a139 := Tryz.isAgg220
 z139 := Tryz.sizeOf220
 v139 := Tryz.zeroValue220
 t160 := Tryz.underlying221
 a160 := Tryz.isAgg221
 z160 := Tryz.sizeOf221
 v160 := Tryz.zeroValue221
 t162 := Tryz.underlying202
 a162 := Tryz.isAgg202
 z162 := Tryz.sizeOf202
 v162 := Tryz.zeroValue202
 t164 := Tryz.underlying131
 a164 := Tryz.isAgg131
 z164 := Tryz.sizeOf131
 v164 := Tryz.zeroValue131
 t203 := Tryz.underlying200
 a203 := Tryz.isAgg200
 z203 := Tryz.sizeOf200
 v203 := Tryz.zeroValue200
 t206 := Tryz.underlying239
 a206 := Tryz.isAgg239
 z206 := Tryz.sizeOf239
 v206 := Tryz.zeroValue239
 t208 := Tryz.underlying241
 a208 := Tryz.isAgg241
 z208 := Tryz.sizeOf241
 v208 := Tryz.zeroValue241
 g3 := by kernel_rfl
 g4 := by kernel_rfl
 g13 := by kernel_rfl }
theorem Tryz.Builder_Extra_159 : Builder.Extra Tryz.prog Tryz.lays159_ren := {
 sizeBuilder := by kernel_rfl
 liesBuilder := by kernel_rfl
 t5 := Tryz.underlying5
 a5 := Tryz.isAgg5
 z5 := Tryz.sizeOf5
 v5 := Tryz.zeroValue5
 infoByte := by kernel_rfl
 cellsByte := by kernel_rfl
 sizeByte := by kernel_rfl
 neB5 := by decide }
open Go.RowKit in
theorem Tryz.strings_ToLower_ascii (s : ByteArray) (w : World) (hs : s.size ≤ 140737488355328) (hascii : ∀ (j : Nat) (b : UInt8), s.data.toList[j]? = some b → b.toNat < 128) :
  Calls Tryz.prog 97 #[.string s] w fun e w' => e = .returned (.string ⟨(Lib.toLowerA s.data.toList).toArray⟩) ∧ Below w.heap.size w w' := Any.strings_ToLower_ascii Tryz.lays159 Tryz.Builder_Extra_159 s w hs hascii
def Tryz.lays161_ren : Go.Shelf.Ren := ⟨fun | 161 => 126 | 231 => 161 | 227 => 162 | 233 => 163 | 235 => 164 | 228 => 212 | 197 => 165 | 151 => 213 | 260 => 214 | 152 => 238 | 137 => 254 | 119 => 255 | 224 => 256 | 225 => 257 | 217 => 267 | 266 => 271 | n => n, fun | 9 => 9 | 4 => 4 | 3 => 3 | 5 => 5 | 117 => 157 | 116 => 156 | 0 => 0 | 124 => 160 | 105 => 161 | 21 => 21 | 119 => 217 | 46 => 85 | 139 => 220 | 138 => 219 | n => n, fun | 3 => 4 | 4 => 5 | n => n⟩
theorem Tryz.lays161 : Go.Proofs.Lays.n161 Tryz.prog Tryz.lays161_ren := {
 mixed := by kernel_rfl
 f119 := Tryz.func255.trans (congrArg some (by kernel_rfl))
 f137 := Tryz.func254.trans (congrArg some (by kernel_rfl))
 f151 := Tryz.func213.trans (congrArg some (by kernel_rfl))
 f152 := Tryz.func238.trans (congrArg some (by kernel_rfl))
 f161 := Tryz.func126.trans (congrArg some (by kernel_rfl))
 f197 := Tryz.func165.trans (congrArg some (by kernel_rfl))
 f217 := Tryz.func267.trans (congrArg some (by kernel_rfl))
 f224 := Tryz.func256.trans (congrArg some (by kernel_rfl))
 f225 := Tryz.func257.trans (congrArg some (by kernel_rfl))
 f227 := Tryz.func162.trans (congrArg some (by kernel_rfl))
 f228 := Tryz.func212.trans (congrArg some (by kernel_rfl))
 f231 := Tryz.func161.trans (congrArg some (by kernel_rfl))
 f233 := Tryz.func163.trans (congrArg some (by kernel_rfl))
 f235 := Tryz.func164.trans (congrArg some (by kernel_rfl))
 f260 := Tryz.func214.trans (congrArg some (by kernel_rfl))
 f266 := Tryz.func271.trans (congrArg some (by kernel_rfl))
 t0 := Tryz.underlying0
 a0 := Tryz.isAgg0
 z0 := Tryz.sizeOf0
 v0 := Tryz.zeroValue0
 t3 := Tryz.underlying3
 a3 := Tryz.isAgg3
 z3 := Tryz.sizeOf3
 v3 := Tryz.zeroValue3
 t4 := Tryz.underlying4
 a4 := Tryz.isAgg4
 z4 := Tryz.sizeOf4
 v4 := Tryz.zeroValue4
 t5 := Tryz.underlying5
 a5 := Tryz.isAgg5
 z5 := Tryz.sizeOf5
 v5 := Tryz.zeroValue5
 t9 := Tryz.underlying9
 a9 := Tryz.isAgg9
 z9 := Tryz.sizeOf9
 v9 := Tryz.zeroValue9
 t21 := Tryz.underlying21
 a21 := Tryz.isAgg21
 z21 := Tryz.sizeOf21
 v21 := Tryz.zeroValue21
 t46 := Tryz.underlying85
 a46 := Tryz.isAgg85
 z46 := Tryz.sizeOf85
 v46 := Tryz.zeroValue85
 t105 := Tryz.underlying161
 a105 := Tryz.isAgg161
 z105 := Tryz.sizeOf161
 v105 := Tryz.zeroValue161
 t116 := Tryz.underlying156
 a116 := Tryz.isAgg156
 z116 := Tryz.sizeOf156
 t117 := Tryz.underlying157
 a117 := Tryz.isAgg157
 z117 := Tryz.sizeOf157
 v117 := Tryz.zeroValue157
 t119 := Tryz.underlying217
 a119 := Tryz.isAgg217
 z119 := Tryz.sizeOf217
 t124 := Tryz.underlying160
 a124 := Tryz.isAgg160
 z124 := Tryz.sizeOf160
 v124 := Tryz.zeroValue160
 t138 := Tryz.underlying219
 a138 := Tryz.isAgg219
 z138 := Tryz.sizeOf219
 v138 := Tryz.zeroValue219
 t139 := Tryz.underlying220
 a139 := Tryz.isAgg220
 z139 := Tryz.sizeOf220
 v139 := Tryz.zeroValue220
 g3 := by kernel_rfl
 g4 := by kernel_rfl }
def Tryz.lays162_ren : Go.Shelf.Ren := ⟨fun | 162 => 135 | 232 => 183 | 227 => 162 | 234 => 184 | 236 => 185 | 228 => 212 | 271 => 225 | 151 => 213 | 120 => 243 | 197 => 165 | 152 => 238 | 260 => 214 | 137 => 254 | 119 => 255 | 224 => 256 | 225 => 257 | 217 => 267 | 266 => 271 | n => n, fun | 9 => 9 | 4 => 4 | 3 => 3 | 5 => 5 | 117 => 157 | 116 => 156 | 0 => 0 | 124 => 160 | 21 => 21 | 105 => 161 | 46 => 85 | 119 => 217 | 139 => 220 | 138 => 219 | n => n, fun | 3 => 4 | 4 => 5 | n => n⟩
theorem Tryz.lays162 : Go.Proofs.Lays.n162 Tryz.prog Tryz.lays162_ren := {
 mixed := by kernel_rfl
 f119 := Tryz.func255.trans (congrArg some (by kernel_rfl))
 f120 := Tryz.func243.trans (congrArg some (by kernel_rfl))
 f137 := Tryz.func254.trans (congrArg some (by kernel_rfl))
 f151 := Tryz.func213.trans (congrArg some (by kernel_rfl))
 f152 := Tryz.func238.trans (congrArg some (by kernel_rfl))
 f162 := Tryz.func135.trans (congrArg some (by kernel_rfl))
 f197 := Tryz.func165.trans (congrArg some (by kernel_rfl))
 f217 := Tryz.func267.trans (congrArg some (by kernel_rfl))
 f224 := Tryz.func256.trans (congrArg some (by kernel_rfl))
 f225 := Tryz.func257.trans (congrArg some (by kernel_rfl))
 f227 := Tryz.func162.trans (congrArg some (by kernel_rfl))
 f228 := Tryz.func212.trans (congrArg some (by kernel_rfl))
 f232 := Tryz.func183.trans (congrArg some (by kernel_rfl))
 f234 := Tryz.func184.trans (congrArg some (by kernel_rfl))
 f236 := Tryz.func185.trans (congrArg some (by kernel_rfl))
 f260 := Tryz.func214.trans (congrArg some (by kernel_rfl))
 f266 := Tryz.func271.trans (congrArg some (by kernel_rfl))
 f271 := Tryz.func225.trans (congrArg some (by kernel_rfl))
 t0 := Tryz.underlying0
 a0 := Tryz.isAgg0
 z0 := Tryz.sizeOf0
 v0 := Tryz.zeroValue0
 t3 := Tryz.underlying3
 a3 := Tryz.isAgg3
 z3 := Tryz.sizeOf3
 v3 := Tryz.zeroValue3
 t4 := Tryz.underlying4
 a4 := Tryz.isAgg4
 z4 := Tryz.sizeOf4
 v4 := Tryz.zeroValue4
 t5 := Tryz.underlying5
 a5 := Tryz.isAgg5
 z5 := Tryz.sizeOf5
 v5 := Tryz.zeroValue5
 t9 := Tryz.underlying9
 a9 := Tryz.isAgg9
 z9 := Tryz.sizeOf9
 v9 := Tryz.zeroValue9
 t21 := Tryz.underlying21
 a21 := Tryz.isAgg21
 z21 := Tryz.sizeOf21
 v21 := Tryz.zeroValue21
 t46 := Tryz.underlying85
 a46 := Tryz.isAgg85
 z46 := Tryz.sizeOf85
 v46 := Tryz.zeroValue85
 t105 := Tryz.underlying161
 a105 := Tryz.isAgg161
 z105 := Tryz.sizeOf161
 v105 := Tryz.zeroValue161
 t116 := Tryz.underlying156
 a116 := Tryz.isAgg156
 z116 := Tryz.sizeOf156
 t117 := Tryz.underlying157
 a117 := Tryz.isAgg157
 z117 := Tryz.sizeOf157
 v117 := Tryz.zeroValue157
 t119 := Tryz.underlying217
 a119 := Tryz.isAgg217
 z119 := Tryz.sizeOf217
 t124 := Tryz.underlying160
 a124 := Tryz.isAgg160
 z124 := Tryz.sizeOf160
 v124 := Tryz.zeroValue160
 t138 := Tryz.underlying219
 a138 := Tryz.isAgg219
 z138 := Tryz.sizeOf219
 v138 := Tryz.zeroValue219
 t139 := Tryz.underlying220
 a139 := Tryz.isAgg220
 z139 := Tryz.sizeOf220
 v139 := Tryz.zeroValue220
 g3 := by kernel_rfl
 g4 := by kernel_rfl }
def Tryz.lays128_ren : Go.Shelf.Ren := ⟨fun | 128 => 219 | n => n, fun | 51 => 129 | 3 => 3 | 4 => 4 | 46 => 85 | 5 => 5 | 9 => 9 | n => n, fun | n => n⟩
theorem Tryz.lays128 : Go.Proofs.Lays.n128 Tryz.prog Tryz.lays128_ren := {
 mixed := by kernel_rfl
 f128 := Tryz.func219.trans (congrArg some (by kernel_rfl))
 t3 := Tryz.underlying3
 a3 := Tryz.isAgg3
 z3 := Tryz.sizeOf3
 v3 := Tryz.zeroValue3
 t4 := Tryz.underlying4
 a4 := Tryz.isAgg4
 z4 := Tryz.sizeOf4
 v4 := Tryz.zeroValue4
 t5 := Tryz.underlying5
 a5 := Tryz.isAgg5
 z5 := Tryz.sizeOf5
 v5 := Tryz.zeroValue5
 t9 := Tryz.underlying9
 a9 := Tryz.isAgg9
 z9 := Tryz.sizeOf9
 v9 := Tryz.zeroValue9
 t46 := Tryz.underlying85
 a46 := Tryz.isAgg85
 z46 := Tryz.sizeOf85
 v46 := Tryz.zeroValue85
 t51 := Tryz.underlying129
 a51 := Tryz.isAgg129
 z51 := Tryz.sizeOf129
 v51 := Tryz.zeroValue129 }
theorem Tryz.bits_Len32 (x : Int) (w : World) (h0 : 0 ≤ x) (h1 : x ≤ 4294967295) :
  Calls Tryz.prog 219 #[.int .u32 x] w fun e w' => e = .returned (.int .i64 (Lib.bitLen x.toNat)) ∧ w' = w := Any.bits_Len32 Tryz.lays128 x w h0 h1
def Tryz.lays125_ren : Go.Shelf.Ren := ⟨fun | 125 => 244 | 128 => 219 | 129 => 229 | n => n, fun | 46 => 85 | 3 => 3 | 51 => 129 | 53 => 40 | 4 => 4 | 5 => 5 | 9 => 9 | n => n, fun | n => n⟩
theorem Tryz.lays125 : Go.Proofs.Lays.n125 Tryz.prog Tryz.lays125_ren := {
 mixed := by kernel_rfl
 f125 := Tryz.func244.trans (congrArg some (by kernel_rfl))
 f128 := Tryz.func219.trans (congrArg some (by kernel_rfl))
 f129 := Tryz.func229.trans (congrArg some (by kernel_rfl))
 t3 := Tryz.underlying3
 a3 := Tryz.isAgg3
 z3 := Tryz.sizeOf3
 v3 := Tryz.zeroValue3
 t4 := Tryz.underlying4
 a4 := Tryz.isAgg4
 z4 := Tryz.sizeOf4
 v4 := Tryz.zeroValue4
 t5 := Tryz.underlying5
 a5 := Tryz.isAgg5
 z5 := Tryz.sizeOf5
 v5 := Tryz.zeroValue5
 t9 := Tryz.underlying9
 a9 := Tryz.isAgg9
 z9 := Tryz.sizeOf9
 v9 := Tryz.zeroValue9
 t46 := Tryz.underlying85
 a46 := Tryz.isAgg85
 z46 := Tryz.sizeOf85
 v46 := Tryz.zeroValue85
 t51 := Tryz.underlying129
 a51 := Tryz.isAgg129
 z51 := Tryz.sizeOf129
 v51 := Tryz.zeroValue129
 t53 := Tryz.underlying40
 a53 := Tryz.isAgg40
 z53 := Tryz.sizeOf40
 v53 := Tryz.zeroValue40 }
theorem Tryz.bits_Len (x : Int) (w : World) (h0 : 0 ≤ x) (h1 : x ≤ 18446744073709551615) :
  Calls Tryz.prog 244 #[.int .u64 x] w fun e w' => e = .returned (.int .i64 (Lib.bitLen x.toNat)) ∧ w' = w := Any.bits_Len Tryz.lays125 x w h0 h1
def Tryz.lays133_ren : Go.Shelf.Ren := ⟨fun | 133 => 259 | 128 => 219 | n => n, fun | 51 => 129 | 3 => 3 | 4 => 4 | 46 => 85 | 5 => 5 | 9 => 9 | n => n, fun | n => n⟩
theorem Tryz.lays133 : Go.Proofs.Lays.n133 Tryz.prog Tryz.lays133_ren := {
 mixed := by kernel_rfl
 f128 := Tryz.func219.trans (congrArg some (by kernel_rfl))
 f133 := Tryz.func259.trans (congrArg some (by kernel_rfl))
 t3 := Tryz.underlying3
 a3 := Tryz.isAgg3
 z3 := Tryz.sizeOf3
 v3 := Tryz.zeroValue3
 t4 := Tryz.underlying4
 a4 := Tryz.isAgg4
 z4 := Tryz.sizeOf4
 v4 := Tryz.zeroValue4
 t5 := Tryz.underlying5
 a5 := Tryz.isAgg5
 z5 := Tryz.sizeOf5
 v5 := Tryz.zeroValue5
 t9 := Tryz.underlying9
 a9 := Tryz.isAgg9
 z9 := Tryz.sizeOf9
 v9 := Tryz.zeroValue9
 t46 := Tryz.underlying85
 a46 := Tryz.isAgg85
 z46 := Tryz.sizeOf85
 v46 := Tryz.zeroValue85
 t51 := Tryz.underlying129
 a51 := Tryz.isAgg129
 z51 := Tryz.sizeOf129
 v51 := Tryz.zeroValue129 }
theorem Tryz.bits_LeadingZeros32 (x : Int) (w : World) (h0 : 0 ≤ x) (h1 : x ≤ 4294967295) :
  Calls Tryz.prog 259 #[.int .u32 x] w fun e w' => e = .returned (.int .i64 (32 - (Lib.bitLen x.toNat : Int))) ∧ w' = w := Any.bits_LeadingZeros32 Tryz.lays133 x w h0 h1
def Tryz.lays106_ren : Go.Shelf.Ren := ⟨fun | 106 => 86 | 213 => 123 | 265 => 160 | n => n, fun | 9 => 9 | 3 => 3 | n => n, fun | n => n⟩
theorem Tryz.lays106 : Go.Proofs.Lays.n106 Tryz.prog Tryz.lays106_ren := {
 mixed := by kernel_rfl
 f106 := Tryz.func86.trans (congrArg some (by kernel_rfl))
 f213 := Tryz.func123.trans (congrArg some (by kernel_rfl))
 f265 := Tryz.func160.trans (congrArg some (by kernel_rfl))
 t3 := Tryz.underlying3
 a3 := Tryz.isAgg3
 z3 := Tryz.sizeOf3
 v3 := Tryz.zeroValue3
 t9 := Tryz.underlying9
 a9 := Tryz.isAgg9
 z9 := Tryz.sizeOf9
 v9 := Tryz.zeroValue9 }
open Go.RowKit in
theorem Tryz.strings_Compare (a b : ByteArray) (w : World) :
  Calls Tryz.prog 86 #[.string a, .string b] w fun e w' => e = .returned (.int .i64 (Lib.compareBytes a.data.toList b.data.toList)) ∧ w' = w := Any.strings_Compare Tryz.lays106 a b w
def Tryz.lays103_ren : Go.Shelf.Ren := ⟨fun | 103 => 100 | 210 => 133 | 206 => 181 | n => n, fun | 9 => 9 | 4 => 4 | 24 => 92 | 3 => 3 | n => n, fun | n => n⟩
theorem Tryz.lays103 : Go.Proofs.Lays.n103 Tryz.prog Tryz.lays103_ren := {
 mixed := by kernel_rfl
 f103 := Tryz.func100.trans (congrArg some (by kernel_rfl))
 f206 := Tryz.func181.trans (congrArg some (by kernel_rfl))
 f210 := Tryz.func133.trans (congrArg some (by kernel_rfl))
 t3 := Tryz.underlying3
 a3 := Tryz.isAgg3
 z3 := Tryz.sizeOf3
 v3 := Tryz.zeroValue3
 t4 := Tryz.underlying4
 a4 := Tryz.isAgg4
 z4 := Tryz.sizeOf4
 v4 := Tryz.zeroValue4
 t9 := Tryz.underlying9
 a9 := Tryz.isAgg9
 z9 := Tryz.sizeOf9
 v9 := Tryz.zeroValue9
 t24 := Tryz.underlying92
 a24 := Tryz.isAgg92
 z24 := Tryz.sizeOf92
 v24 := Tryz.zeroValue92 }
open Go.RowKit in
theorem Tryz.strings_CutPrefix (s p : ByteArray) (w : World) :
  Calls Tryz.prog 100 #[.string s, .string p] w fun e w' => e = .returned (.tuple #[.string ⟨(Lib.trimPrefix s.data.toList p.data.toList).toArray⟩, .bool (Lib.hasPrefix s.data.toList p.data.toList)]) ∧ w' = w := Any.strings_CutPrefix Tryz.lays103 s p w
open Go.RowKit in
theorem Tryz.Builder_String_any_k (B b : Nat) (l : List UInt8) (w : World) (h : Lib.IsBuilderF 79 5 B b (Lib.byteCells l) w) (hBw : B ≤ w.heap.size) :
  Calls Tryz.prog 82 #[.pointer (some ⟨b, 0, none⟩)] w fun e w' => e = .returned (.string ⟨l.toArray⟩) ∧ (Lib.IsBuilderF 79 5 B b (Lib.byteCells l) w' ∧ Below B w w' ∧ Lib.OthersKept 5 (some b) w w') := Any.Builder_String_any_k Tryz.lays169 Tryz.Builder_Extra_169 B b l w h hBw
def Tryz.lays129_ren : Go.Shelf.Ren := ⟨fun | 129 => 229 | n => n, fun | 53 => 40 | 3 => 3 | 4 => 4 | 46 => 85 | 5 => 5 | 9 => 9 | n => n, fun | n => n⟩
theorem Tryz.lays129 : Go.Proofs.Lays.n129 Tryz.prog Tryz.lays129_ren := {
 mixed := by kernel_rfl
 f129 := Tryz.func229.trans (congrArg some (by kernel_rfl))
 t3 := Tryz.underlying3
 a3 := Tryz.isAgg3
 z3 := Tryz.sizeOf3
 v3 := Tryz.zeroValue3
 t4 := Tryz.underlying4
 a4 := Tryz.isAgg4
 z4 := Tryz.sizeOf4
 v4 := Tryz.zeroValue4
 t5 := Tryz.underlying5
 a5 := Tryz.isAgg5
 z5 := Tryz.sizeOf5
 v5 := Tryz.zeroValue5
 t9 := Tryz.underlying9
 a9 := Tryz.isAgg9
 z9 := Tryz.sizeOf9
 v9 := Tryz.zeroValue9
 t46 := Tryz.underlying85
 a46 := Tryz.isAgg85
 z46 := Tryz.sizeOf85
 v46 := Tryz.zeroValue85
 t53 := Tryz.underlying40
 a53 := Tryz.isAgg40
 z53 := Tryz.sizeOf40
 v53 := Tryz.zeroValue40 }
theorem Tryz.bits_Len64 (x : Int) (w : World) (h0 : 0 ≤ x) (h1 : x ≤ 18446744073709551615) :
  Calls Tryz.prog 229 #[.int .u64 x] w fun e w' => e = .returned (.int .i64 (Lib.bitLen x.toNat)) ∧ w' = w := Any.bits_Len64 Tryz.lays129 x w h0 h1
def Tryz.lays283_ren : Go.Shelf.Ren := ⟨fun | 283 => 248 | n => n, fun | 3 => 3 | 9 => 9 | 4 => 4 | n => n, fun | n => n⟩
theorem Tryz.lays283 : Go.Proofs.Lays.n283 Tryz.prog Tryz.lays283_ren := {
 mixed := by kernel_rfl
 f283 := Tryz.func248.trans (congrArg some (by kernel_rfl))
 t3 := Tryz.underlying3
 a3 := Tryz.isAgg3
 z3 := Tryz.sizeOf3
 v3 := Tryz.zeroValue3
 t4 := Tryz.underlying4
 a4 := Tryz.isAgg4
 z4 := Tryz.sizeOf4
 v4 := Tryz.zeroValue4
 t9 := Tryz.underlying9
 a9 := Tryz.isAgg9
 z9 := Tryz.sizeOf9
 v9 := Tryz.zeroValue9 }
open Go.Lib in
theorem Tryz.internal_strconv_small (i : Nat) (h : i < 100) (w : World) :
  Calls Tryz.prog 248 #[.int .i64 i] w fun e w' => e = .returned (.string ⟨(Lib.decDigits i).toArray⟩) ∧ w' = w := Any.internal_strconv_small Tryz.lays283 i h w
def Tryz.laysM284_ren : Go.Shelf.Ren := ⟨fun | 284 => 249 | 129 => 229 | 317 => 261 | 318 => 262 | n => n, fun | 53 => 40 | 3 => 3 | 212 => 244 | 0 => 0 | 4 => 4 | 46 => 85 | 5 => 5 | 9 => 9 | n => n, fun | 17 => 6 | n => n⟩
theorem Tryz.laysM284 : Go.Proofs.LaysM.n284 Tryz.prog Tryz.laysM284_ren := {
 mixed := by kernel_rfl
 f129 := Tryz.func229.trans (congrArg some (by kernel_rfl))
 f284 := Tryz.func249.trans (congrArg some (by kernel_rfl))
 f317 := Tryz.func261.trans (congrArg some (by kernel_rfl))
 f318 := Tryz.func262.trans (congrArg some (by kernel_rfl))
 t0 := Tryz.underlying0
 a0 := Tryz.isAgg0
 z0 := Tryz.sizeOf0
 v0 := Tryz.zeroValue0
 t3 := Tryz.underlying3
 a3 := Tryz.isAgg3
 z3 := Tryz.sizeOf3
 v3 := Tryz.zeroValue3
 t4 := Tryz.underlying4
 a4 := Tryz.isAgg4
 z4 := Tryz.sizeOf4
 v4 := Tryz.zeroValue4
 t5 := Tryz.underlying5
 a5 := Tryz.isAgg5
 z5 := Tryz.sizeOf5
 v5 := Tryz.zeroValue5
 t9 := Tryz.underlying9
 a9 := Tryz.isAgg9
 z9 := Tryz.sizeOf9
 v9 := Tryz.zeroValue9
 t46 := Tryz.underlying85
 a46 := Tryz.isAgg85
 z46 := Tryz.sizeOf85
 v46 := Tryz.zeroValue85
 t53 := Tryz.underlying40
 a53 := Tryz.isAgg40
 z53 := Tryz.sizeOf40
 v53 := Tryz.zeroValue40
 t212 := Tryz.underlying244
 a212 := Tryz.isAgg244
 z212 := Tryz.sizeOf244
 v212 := Tryz.zeroValue244
 g17 := by kernel_rfl
 i0 := by kernel_rfl
 i3 := by kernel_rfl
 i4 := by kernel_rfl
 i5 := by kernel_rfl
 i9 := by kernel_rfl
 i46 := by kernel_rfl
 i53 := by kernel_rfl
 i212 := by kernel_rfl
 m17 := by kernel_rfl }
open Go.Lib in
theorem Tryz.internal_strconv_numDigits (u : Nat) (h1 : 1 ≤ u) (h2 : u < 18446744073709551616) (w : World) (htab : Lib.TabIs Tryz.prog w "internal/strconv.uint64pow10" .u64 Lib.pow10Tab) :
  Calls Tryz.prog 249 #[.int .u64 u] w fun e w' => e = .returned (.int .i64 (Lib.nDigits u)) ∧ w' = w := Any.internal_strconv_numDigits Tryz.laysM284 u h1 h2 w htab
def Tryz.lays285_ren : Go.Shelf.Ren := ⟨fun | 285 => 250 | n => n, fun | 37 => 66 | 53 => 40 | 3 => 3 | 4 => 4 | 51 => 129 | 9 => 9 | 5 => 5 | 0 => 0 | n => n, fun | n => n⟩
theorem Tryz.lays285 : Go.Proofs.Lays.n285 Tryz.prog Tryz.lays285_ren := {
 mixed := by kernel_rfl
 f285 := Tryz.func250.trans (congrArg some (by kernel_rfl))
 t0 := Tryz.underlying0
 a0 := Tryz.isAgg0
 z0 := Tryz.sizeOf0
 v0 := Tryz.zeroValue0
 t3 := Tryz.underlying3
 a3 := Tryz.isAgg3
 z3 := Tryz.sizeOf3
 v3 := Tryz.zeroValue3
 t4 := Tryz.underlying4
 a4 := Tryz.isAgg4
 z4 := Tryz.sizeOf4
 v4 := Tryz.zeroValue4
 t5 := Tryz.underlying5
 a5 := Tryz.isAgg5
 z5 := Tryz.sizeOf5
 v5 := Tryz.zeroValue5
 t9 := Tryz.underlying9
 a9 := Tryz.isAgg9
 z9 := Tryz.sizeOf9
 v9 := Tryz.zeroValue9
 t37 := Tryz.underlying66
 a37 := Tryz.isAgg66
 z37 := Tryz.sizeOf66
 v37 := Tryz.zeroValue66
 t51 := Tryz.underlying129
 a51 := Tryz.isAgg129
 z51 := Tryz.sizeOf129
 v51 := Tryz.zeroValue129
 t53 := Tryz.underlying40
 a53 := Tryz.isAgg40
 z53 := Tryz.sizeOf40
 v53 := Tryz.zeroValue40 }
open Go.RowKit Go.Sort Go.Lib in
theorem Tryz.internal_strconv_formatBase10 (blk off cap : Nat) (u : Nat) (d : Array UInt8) (w : World) (hH : Holds (fun (b : UInt8) => Value.int .u8 (b.toNat : Int)) w blk off d) (hu : u < 10 ^ d.size) (hu64 : u < 18446744073709551616) (hsz : d.size < 4611686018427387904) :
  Calls Tryz.prog 250 #[.slice (some ⟨blk, off, none⟩) d.size cap, .int .u64 u] w fun e w' =>
   e = .returned (.tuple #[]) ∧ ∃ (n v' : Nat) (dk : Array UInt8), w' = (putRow (fun (b : UInt8) => Value.int .u8 (b.toNat : Int)) w blk off dk).drewN n ∧ FmtInv d.size u 0 v' dk := Any.internal_strconv_formatBase10 Tryz.lays285 blk off cap u d w hH hu hu64 hsz
def Tryz.laysM171_ren : Go.Shelf.Ren := ⟨fun | 171 => 149 | 243 => 205 | 246 => 236 | 283 => 248 | 284 => 249 | 285 => 250 | 286 => 251 | 129 => 229 | 317 => 261 | 318 => 262 | 319 => 263 | 320 => 264 | 337 => 270 | 338 => 199 | n => n, fun | 3 => 3 | 9 => 9 | 2 => 2 | 4 => 4 | 171 => 229 | 0 => 0 | 53 => 40 | 37 => 66 | 5 => 5 | 173 => 231 | 212 => 244 | 51 => 129 | 20 => 20 | 213 => 245 | 46 => 85 | 232 => 249 | 233 => 211 | n => n, fun | 17 => 6 | 18 => 8 | 19 => 3 | n => n⟩
theorem Tryz.laysM171 : Go.Proofs.LaysM.n171 Tryz.prog Tryz.laysM171_ren := {
 mixed := by kernel_rfl
 f129 := Tryz.func229.trans (congrArg some (by kernel_rfl))
 f171 := Tryz.func149.trans (congrArg some (by kernel_rfl))
 f243 := Tryz.func205.trans (congrArg some (by kernel_rfl))
 f246 := Tryz.func236.trans (congrArg some (by kernel_rfl))
 f283 := Tryz.func248.trans (congrArg some (by kernel_rfl))
 f284 := Tryz.func249.trans (congrArg some (by kernel_rfl))
 f285 := Tryz.func250.trans (congrArg some (by kernel_rfl))
 f286 := Tryz.func251.trans (congrArg some (by kernel_rfl))
 f317 := Tryz.func261.trans (congrArg some (by kernel_rfl))
 f318 := Tryz.func262.trans (congrArg some (by kernel_rfl))
 f319 := Tryz.func263.trans (congrArg some (by kernel_rfl))
 f320 := Tryz.func264.trans (congrArg some (by kernel_rfl))
 f337 := Tryz.func270.trans (congrArg some (by kernel_rfl))
 f338 := Tryz.func199.trans (congrArg some (by kernel_rfl))
 t0 := Tryz.underlying0
 a0 := Tryz.isAgg0
 z0 := Tryz.sizeOf0
 v0 := Tryz.zeroValue0
 t2 := Tryz.underlying2
 a2 := Tryz.isAgg2
 z2 := Tryz.sizeOf2
 v2 := Tryz.zeroValue2
 t3 := Tryz.underlying3
 a3 := Tryz.isAgg3
 z3 := Tryz.sizeOf3
 v3 := Tryz.zeroValue3
 t4 := Tryz.underlying4
 a4 := Tryz.isAgg4
 z4 := Tryz.sizeOf4
 v4 := Tryz.zeroValue4
 t5 := Tryz.underlying5
 a5 := Tryz.isAgg5
 z5 := Tryz.sizeOf5
 v5 := Tryz.zeroValue5
 t9 := Tryz.underlying9
 a9 := Tryz.isAgg9
 z9 := Tryz.sizeOf9
 v9 := Tryz.zeroValue9
 t20 := Tryz.underlying20
 a20 := Tryz.isAgg20
 z20 := Tryz.sizeOf20
 v20 := Tryz.zeroValue20
 t37 := Tryz.underlying66
 a37 := Tryz.isAgg66
 z37 := Tryz.sizeOf66
 v37 := Tryz.zeroValue66
 t46 := Tryz.underlying85
 a46 := Tryz.isAgg85
 z46 := Tryz.sizeOf85
 v46 := Tryz.zeroValue85
 t51 := Tryz.underlying129
 a51 := Tryz.isAgg129
 z51 := Tryz.sizeOf129
 v51 := Tryz.zeroValue129
 t53 := Tryz.underlying40
 a53 := Tryz.isAgg40
 z53 := Tryz.sizeOf40
 v53 := Tryz.zeroValue40
 t171 := Tryz.underlying229
 a171 := Tryz.isAgg229
 z171 := Tryz.sizeOf229
 v171 := Tryz.zeroValue229
 t173 := Tryz.underlying231
 a173 := Tryz.isAgg231
 z173 := Tryz.sizeOf231
 v173 := Tryz.zeroValue231
 t212 := Tryz.underlying244
 a212 := Tryz.isAgg244
 z212 := Tryz.sizeOf244
 v212 := Tryz.zeroValue244
 t213 := Tryz.underlying245
 a213 := Tryz.isAgg245
 z213 := Tryz.sizeOf245
 t232 := Tryz.underlying249
 a232 := Tryz.isAgg249
 z232 := Tryz.sizeOf249
 v232 := Tryz.zeroValue249
 t233 := Tryz.underlying211
 a233 := Tryz.isAgg211
 z233 := Tryz.sizeOf211
 v233 := Tryz.zeroValue211
 g17 := by kernel_rfl
 g18 := by kernel_rfl
 g19 := by kernel_rfl
 i0 := by kernel_rfl
 i2 := by kernel_rfl
 i3 := by kernel_rfl
 i4 := by kernel_rfl
 i5 := by kernel_rfl
 i9 := by kernel_rfl
 i20 := by kernel_rfl
 i37 := by kernel_rfl
 i46 := by kernel_rfl
 i51 := by kernel_rfl
 i53 := by kernel_rfl
 i171 := by kernel_rfl
 i173 := by kernel_rfl
 i212 := by kernel_rfl
 i232 := by kernel_rfl
 i233 := by kernel_rfl
 m17 := by kernel_rfl
 m18 := by kernel_rfl
 m19 := by kernel_rfl }
open Go.RowKit Go.Sort Go.Lib in
theorem Tryz.strconv_Itoa (n : Int) (h0 : -9223372036854775808 ≤ n) (h1 : n ≤ 9223372036854775807) (w : World) (htab : Lib.TabIs Tryz.prog w "internal/strconv.uint64pow10" .u64 Lib.pow10Tab) :
  Calls Tryz.prog 149 #[.int .i64 n] w fun e w' => e = .returned (.string ⟨(Lib.itoa n).toArray⟩) ∧ ∃ k os, w' = grow (w.drewN k) os := Any.strconv_Itoa Tryz.laysM171 n h0 h1 w htab
def Tryz.lays101_ren : Go.Shelf.Ren := ⟨fun | 101 => 132 | 208 => 180 | 206 => 181 | n => n, fun | 9 => 9 | 4 => 4 | 3 => 3 | n => n, fun | n => n⟩
theorem Tryz.lays101 : Go.Proofs.Lays.n101 Tryz.prog Tryz.lays101_ren := {
 mixed := by kernel_rfl
 f101 := Tryz.func132.trans (congrArg some (by kernel_rfl))
 f206 := Tryz.func181.trans (congrArg some (by kernel_rfl))
 f208 := Tryz.func180.trans (congrArg some (by kernel_rfl))
 t3 := Tryz.underlying3
 a3 := Tryz.isAgg3
 z3 := Tryz.sizeOf3
 v3 := Tryz.zeroValue3
 t4 := Tryz.underlying4
 a4 := Tryz.isAgg4
 z4 := Tryz.sizeOf4
 v4 := Tryz.zeroValue4
 t9 := Tryz.underlying9
 a9 := Tryz.isAgg9
 z9 := Tryz.sizeOf9
 v9 := Tryz.zeroValue9 }
open Go.RowKit Go.Lib in
theorem Tryz.strings_TrimPrefix (s p : ByteArray) (w : World) :
  Calls Tryz.prog 132 #[.string s, .string p] w fun e w' => e = .returned (.string ⟨(Lib.trimPrefix s.data.toList p.data.toList).toArray⟩) ∧ w' = w := Any.strings_TrimPrefix Tryz.lays101 s p w
def Tryz.lays105_ren : Go.Shelf.Ren := ⟨fun | 105 => 118 | 212 => 150 | 99 => 151 | 165 => 80 | 166 => 127 | 170 => 152 | 169 => 82 | 263 => 206 | 264 => 207 | 206 => 181 | 240 => 112 | 241 => 113 | 276 => 142 | 277 => 143 | n => n, fun | 9 => 9 | 3 => 3 | 4 => 4 | 20 => 20 | 0 => 0 | 46 => 85 | 109 => 143 | 5 => 5 | 72 => 79 | 76 => 117 | 51 => 129 | 146 => 169 | 53 => 40 | 148 => 195 | 70 => 77 | 37 => 66 | 75 => 89 | 127 => 110 | 164 => 131 | 80 => 82 | n => n, fun | n => n⟩
theorem Tryz.lays105 : Go.Proofs.Lays.n105 Tryz.prog Tryz.lays105_ren := {
 mixed := by kernel_rfl
 f99 := Tryz.func151.trans (congrArg some (by kernel_rfl))
 f105 := Tryz.func118.trans (congrArg some (by kernel_rfl))
 f165 := Tryz.func80.trans (congrArg some (by kernel_rfl))
 f166 := Tryz.func127.trans (congrArg some (by kernel_rfl))
 f169 := Tryz.func82.trans (congrArg some (by kernel_rfl))
 f170 := Tryz.func152.trans (congrArg some (by kernel_rfl))
 f206 := Tryz.func181.trans (congrArg some (by kernel_rfl))
 f212 := Tryz.func150.trans (congrArg some (by kernel_rfl))
 f240 := Tryz.func112.trans (congrArg some (by kernel_rfl))
 f241 := Tryz.func113.trans (congrArg some (by kernel_rfl))
 f263 := Tryz.func206.trans (congrArg some (by kernel_rfl))
 f264 := Tryz.func207.trans (congrArg some (by kernel_rfl))
 f276 := Tryz.func142.trans (congrArg some (by kernel_rfl))
 f277 := Tryz.func143.trans (congrArg some (by kernel_rfl))
 t0 := Tryz.underlying0
 a0 := Tryz.isAgg0
 z0 := Tryz.sizeOf0
 v0 := Tryz.zeroValue0
 t3 := Tryz.underlying3
 a3 := Tryz.isAgg3
 z3 := Tryz.sizeOf3
 v3 := Tryz.zeroValue3
 t4 := Tryz.underlying4
 a4 := Tryz.isAgg4
 z4 := Tryz.sizeOf4
 v4 := Tryz.zeroValue4
 t5 := Tryz.underlying5
 a5 := Tryz.isAgg5
 z5 := Tryz.sizeOf5
 v5 := Tryz.zeroValue5
 t9 := Tryz.underlying9
 a9 := Tryz.isAgg9
 z9 := Tryz.sizeOf9
 v9 := Tryz.zeroValue9
 t20 := Tryz.underlying20
 a20 := Tryz.isAgg20
 z20 := Tryz.sizeOf20
 v20 := Tryz.zeroValue20
 t37 := Tryz.underlying66
 a37 := Tryz.isAgg66
 z37 := Tryz.sizeOf66
 v37 := Tryz.zeroValue66
 t46 := Tryz.underlying85
 a46 := Tryz.isAgg85
 z46 := Tryz.sizeOf85
 v46 := Tryz.zeroValue85
 t51 := Tryz.underlying129
 a51 := Tryz.isAgg129
 z51 := Tryz.sizeOf129
 v51 := Tryz.zeroValue129
 t53 := Tryz.underlying40
 a53 := Tryz.isAgg40
 z53 := Tryz.sizeOf40
 v53 := Tryz.zeroValue40
 t70 := Tryz.underlying77
 a70 := Tryz.isAgg77
 z70 := Tryz.sizeOf77
 v70 := Tryz.zeroValue77
 t72 := Tryz.underlying79
 a72 := Tryz.isAgg79
 z72 := Tryz.sizeOf79
 v72 := Tryz.zeroValue79
 t75 := Tryz.underlying89
 a75 := Tryz.isAgg89
 z75 := Tryz.sizeOf89
 v75 := Tryz.zeroValue89
 t76 := Tryz.underlying117
 a76 := Tryz.isAgg117
 z76 := Tryz.sizeOf117
 v76 := Tryz.zeroValue117
 t109 := Tryz.underlying143
 a109 := Tryz.isAgg143
 z109 := Tryz.sizeOf143
 v109 := Tryz.zeroValue143
 t127 := Tryz.underlying110
 a127 := Tryz.isAgg110
 z127 := Tryz.sizeOf110
 v127 := Tryz.zeroValue110
 t146 := Tryz.underlying169
 a146 := Tryz.isAgg169
 z146 := Tryz.sizeOf169
 v146 := Tryz.zeroValue169
 t148 := Tryz.underlying195
 a148 := Tryz.isAgg195
 z148 := Tryz.sizeOf195
 v148 := Tryz.zeroValue195
 t164 := Tryz.underlying131
 a164 := Tryz.isAgg131
 z164 := Tryz.sizeOf131
 v164 := Tryz.zeroValue131 }
theorem Tryz.Builder_Extra_105 : Builder.Extra Tryz.prog Tryz.lays105_ren := {
 sizeBuilder := by kernel_rfl
 liesBuilder := by kernel_rfl
 t5 := Tryz.underlying5
 a5 := Tryz.isAgg5
 z5 := Tryz.sizeOf5
 v5 := Tryz.zeroValue5
 infoByte := by kernel_rfl
 cellsByte := by kernel_rfl
 sizeByte := by kernel_rfl
 neB5 := by decide }
open Go.RowKit Go.Lib in
theorem Tryz.strings_Repeat (s : ByteArray) (c : Nat) (w : World) (hc : c ≤ 9223372036854775807) (hlen : s.size * c ≤ 140737488355328) :
  Calls Tryz.prog 118 #[.string s, .int .i64 c] w fun e w' => e = .returned (.string ⟨(Lib.repeatL s.data.toList c).toArray⟩) ∧ Below w.heap.size w w' := Any.strings_Repeat Tryz.lays105 Tryz.Builder_Extra_105 s c w hc hlen
def Tryz.lays167_ren : Go.Shelf.Ren := ⟨fun | 167 => 92 | 240 => 112 | 276 => 142 | n => n, fun | 70 => 77 | 5 => 5 | 75 => 89 | 0 => 0 | 72 => 79 | 37 => 66 | 4 => 4 | 164 => 131 | 80 => 82 | 9 => 9 | 20 => 20 | n => n, fun | n => n⟩
theorem Tryz.lays167 : Go.Proofs.Lays.n167 Tryz.prog Tryz.lays167_ren := {
 mixed := by kernel_rfl
 f167 := Tryz.func92.trans (congrArg some (by kernel_rfl))
 f240 := Tryz.func112.trans (congrArg some (by kernel_rfl))
 f276 := Tryz.func142.trans (congrArg some (by kernel_rfl))
 t0 := Tryz.underlying0
 a0 := Tryz.isAgg0
 z0 := Tryz.sizeOf0
 v0 := Tryz.zeroValue0
 t4 := Tryz.underlying4
 a4 := Tryz.isAgg4
 z4 := Tryz.sizeOf4
 v4 := Tryz.zeroValue4
 t5 := Tryz.underlying5
 a5 := Tryz.isAgg5
 z5 := Tryz.sizeOf5
 v5 := Tryz.zeroValue5
 t9 := Tryz.underlying9
 a9 := Tryz.isAgg9
 z9 := Tryz.sizeOf9
 v9 := Tryz.zeroValue9
 t20 := Tryz.underlying20
 a20 := Tryz.isAgg20
 z20 := Tryz.sizeOf20
 v20 := Tryz.zeroValue20
 t37 := Tryz.underlying66
 a37 := Tryz.isAgg66
 z37 := Tryz.sizeOf66
 v37 := Tryz.zeroValue66
 t70 := Tryz.underlying77
 a70 := Tryz.isAgg77
 z70 := Tryz.sizeOf77
 v70 := Tryz.zeroValue77
 t72 := Tryz.underlying79
 a72 := Tryz.isAgg79
 z72 := Tryz.sizeOf79
 v72 := Tryz.zeroValue79
 t75 := Tryz.underlying89
 a75 := Tryz.isAgg89
 z75 := Tryz.sizeOf89
 v75 := Tryz.zeroValue89
 t164 := Tryz.underlying131
 a164 := Tryz.isAgg131
 z164 := Tryz.sizeOf131
 v164 := Tryz.zeroValue131 }
theorem Tryz.Builder_Extra_167 : Builder.Extra Tryz.prog Tryz.lays167_ren := {
 sizeBuilder := by kernel_rfl
 liesBuilder := by kernel_rfl
 t5 := Tryz.underlying5
 a5 := Tryz.isAgg5
 z5 := Tryz.sizeOf5
 v5 := Tryz.zeroValue5
 infoByte := by kernel_rfl
 cellsByte := by kernel_rfl
 sizeByte := by kernel_rfl
 neB5 := by decide }
open Go.RowKit in
theorem Tryz.Builder_WriteByte_k (B b : Nat) (bs : List Value) (c : Int) (w : World) (h : Lib.IsBuilderF 79 5 B b bs w) (hlen : bs.length + 1 ≤ 140737488355328) (hBw : B ≤ w.heap.size) :
  Calls Tryz.prog 92 #[.pointer (some ⟨b, 0, none⟩), .int .u8 c] w fun e w' => e = .returned .nilIface ∧ (Lib.BuilderAtF 79 5 B b (.pointer (some ⟨b, 0, none⟩)) (bs ++ [.int .u8 c]) w' ∧ Below B w w' ∧ Lib.OthersKept 5 (some b) w w') := Any.Builder_WriteByte_k Tryz.lays167 Tryz.Builder_Extra_167 B b bs c w h hlen hBw
open Go.RowKit in
theorem Tryz.strings_TrimLeft_laid (s cutset : ByteArray) (w : World) (hcs : cutset.size < 4294967281) (hascii : ∀ (j : Nat) (b : UInt8), cutset.data.toList[j]? = some b → b.toNat < 128) :
  Calls Tryz.prog 126 #[.string s, .string cutset] w fun e w' => e = .returned (.string ⟨(Lib.trimLeftS s.data.toList cutset.data.toList).toArray⟩) ∧ Below w.heap.size w w' := Any.strings_TrimLeft_laid Tryz.lays161 (by kernel_rfl) s cutset w hcs hascii
open Go.RowKit in
theorem Tryz.strings_TrimRight_laid (s cutset : ByteArray) (w : World) (hs : s.size ≤ 9223372036854775807) (hcs : cutset.size < 4294967281) (hascii : ∀ (j : Nat) (b : UInt8), cutset.data.toList[j]? = some b → b.toNat < 128) :
  Calls Tryz.prog 135 #[.string s, .string cutset] w fun e w' => e = .returned (.string ⟨(Lib.trimRightS s.data.toList cutset.data.toList).toArray⟩) ∧ Below w.heap.size w w' := Any.strings_TrimRight_laid Tryz.lays162 (by kernel_rfl) s cutset w hs hcs hascii
end Go.Proofs
namespace Go.Proofs.YtmakhfekiieneaaGreatDoor
section
def val : List Nat → Nat
 | [] => 0
 | x :: r => x + 4294967296 * val r
def Ws (l : List Nat) : Prop := ∀ u ∈ l, u < 4294967296
def nrm : List Nat → List Nat
 | [] => []
 | x :: r => if x = 0 ∧ nrm r = [] then [] else x :: nrm r
theorem Ws.nil : Ws [] := fun u h => by simp at h
theorem Ws.cons {x : Nat} {r : List Nat} (hx : x < 4294967296) (h : Ws r) : Ws (x :: r) := fun u hu => by
 rcases List.mem_cons.1 hu with rfl | hu
 ·exact hx
 ·exact h u hu
theorem Ws.head {x : Nat} {r : List Nat} (h : Ws (x :: r)) : x < 4294967296 := h x (by simp)
theorem Ws.tail {x : Nat} {r : List Nat} (h : Ws (x :: r)) : Ws r := fun u hu => h u (by simp [hu])
theorem Ws.append {l m : List Nat} (h : Ws l) (g : Ws m) : Ws (l ++ m) := fun u hu => by
 rcases List.mem_append.1 hu with hu | hu
 ·exact h u hu
 ·exact g u hu
theorem Ws.take {l : List Nat} (h : Ws l) (n : Nat) : Ws (l.take n) := fun u hu => h u (List.mem_of_mem_take hu)
theorem Ws.drop {l : List Nat} (h : Ws l) (n : Nat) : Ws (l.drop n) := fun u hu => h u (List.mem_of_mem_drop hu)
theorem Ws.get {l : List Nat} (h : Ws l) {k u : Nat} (e : l[k]? = some u) : u < 4294967296 := h u (List.mem_of_getElem? e)
theorem Ws.getD {l : List Nat} (h : Ws l) (k : Nat) : l.getD k 0 < 4294967296 := by
 rw [List.getD_eq_getElem?_getD]
 cases e : l[k]? with
 | none => simp
 | some u => exact h.get e
theorem V6 : nrm [] = [] := rfl
theorem Qt {r : List Nat} (h : nrm r = []) : nrm (0 :: r) = [] := by simp [nrm, h]
theorem C9 {x : Nat} {r : List Nat} (h : ¬ (x = 0 ∧ nrm r = [])) : nrm (x :: r) = x :: nrm r := by rw [nrm, if_neg h]
theorem Bq : ∀ l : List Nat, (nrm l).length ≤ l.length
 | [] => by simp [nrm]
 | x :: r => by
  have := Bq r
  by_cases h : x = 0 ∧ nrm r = []
  ·simp [nrm, h]
  ·rw [C9 h]; simp; exact this
theorem Ws.nrm : ∀ {l : List Nat}, Ws l → Ws (nrm l)
 | [], h => h
 | x :: r, h => by
  by_cases g : x = 0 ∧ Go.Proofs.YtmakhfekiieneaaGreatDoor.nrm r = []
  ·rw [Go.Proofs.YtmakhfekiieneaaGreatDoor.nrm, if_pos g]; exact Ws.nil
  ·rw [C9 g]; exact Ws.cons h.head (Ws.nrm h.tail)
theorem Hq : ∀ l : List Nat, nrm l = l.take (nrm l).length
 | [] => rfl
 | x :: r => by
  by_cases h : x = 0 ∧ nrm r = []
  ·simp [nrm, h]
  ·rw [C9 h]; simp; exact Hq r
theorem D2 : ∀ l : List Nat, nrm (nrm l) = nrm l
 | [] => rfl
 | x :: r => by
  by_cases h : x = 0 ∧ nrm r = []
  ·simp [nrm, h]
  ·rw [C9 h, nrm, D2 r, if_neg h]
theorem Ar : ∀ l : List Nat, val (nrm l) = val l
 | [] => rfl
 | x :: r => by
  have := Ar r
  by_cases h : x = 0 ∧ nrm r = []
  ·rw [h.2] at this
   rw [nrm, if_pos h]
   simp only [val] at this ⊢
   omega
  ·rw [C9 h]; simp only [val, this]
theorem Bx : ∀ {l : List Nat}, val l = 0 → nrm l = []
 | [], _ => rfl
 | x :: r, h => by
  simp only [val] at h
  have h1 : x = 0 := by omega
  have h2 : val r = 0 := by omega
  rw [h1, Qt (Bx h2)]
theorem Wk : ∀ {l m : List Nat}, Ws l → Ws m → val l = val m → nrm l = nrm m
 | [], m, _, _, h => by rw [V6, Bx (by rw [← h]; rfl)]
 | x :: r, [], _, _, h => by rw [V6, Bx (by rw [h]; rfl)]
 | x :: r, y :: s, hl, hm, h => by
  have hx := hl.head
  have hy := hm.head
  simp only [val] at h
  have h1 : x = y := by omega
  have h2 : val r = val s := by omega
  have := Wk hl.tail hm.tail h2
  simp only [nrm, h1, this]
theorem Kr {l : List Nat} (h : nrm l = []) : val l = 0 := by rw [← Ar, h]; rfl
theorem Fk : ∀ l m : List Nat, val (l ++ m) = val l + 4294967296 ^ l.length * val m
 | [], m => by simp [val]
 | x :: r, m => by
  rw [List.cons_append, val, Fk r m, val, List.length_cons, Nat.pow_succ, Nat.mul_add, Nat.mul_comm (4294967296 ^ r.length) 4294967296, Nat.mul_assoc]
  omega
theorem Nd (n : Nat) : val (List.replicate n 0) = 0 := by
 induction n with
 | zero => rfl
 | succ n ih => rw [List.replicate_succ, val, ih]
theorem Dk : ∀ {l : List Nat}, Ws l → val l < 4294967296 ^ l.length
 | [], _ => by simp [val]
 | x :: r, h => by
  have h1 := h.head
  have h2 := Dk h.tail
  rw [val, List.length_cons, Nat.pow_succ]
  have : 4294967296 * (val r + 1) ≤ 4294967296 ^ r.length * 4294967296 := by rw [Nat.mul_comm]; exact Nat.mul_le_mul_right _ h2
  omega
theorem Ka : ∀ (l : List Nat) (n : Nat), n ≤ l.length → (∀ k, n ≤ k → k < l.length → l.getD k 0 = 0) → (n = 0 ∨ l.getD (n - 1) 0 ≠ 0) → nrm l = l.take n
 | [], n, hn, _, _ => by simp [nrm]
 | x :: r, 0, _, h0, _ => by
  have hx := h0 0 (by omega) (by simp)
  have hr := Ka r 0 (by omega) (fun k hk hl => by have := h0 (k + 1) (by omega) (by simp; omega); simpa using this) (.inl rfl)
  simp only [List.take_zero] at hr ⊢
  have hx' : x = 0 := by simpa using hx
  rw [hx', Qt hr]
 | x :: r, n + 1, hn, h0, hl => by
  have hn' : n ≤ r.length := by simpa using hn
  rcases hl with hl | hl
  ·omega
  ·cases n with
   | zero =>
    have hx : x ≠ 0 := by simpa using hl
    have hr := Ka r 0 (by omega) (fun k hk hl => by have := h0 (k + 1) (by omega) (by simp; omega); simpa using this) (.inl rfl)
    rw [C9 (fun h => hx h.1), hr]
    rfl
   | succ n =>
    have hr := Ka r (n + 1) hn' (fun k hk hl => by have := h0 (k + 1) (by omega) (by simp; omega); simpa using this) (.inr (by simpa using hl))
    have hne : nrm r ≠ [] := by
     rw [hr]
     intro e
     have := congrArg List.length e
     rw [List.length_take, List.length_nil] at this
     have := hn'
     omega
    rw [C9 (fun h => hne h.2), hr]
    rfl
theorem Aah {l : List Nat} (h : nrm l ≠ []) : l.getD ((nrm l).length - 1) 0 ≠ 0 := by
 induction l with
 | nil => simp [nrm] at h
 | cons x r ih =>
  by_cases g : x = 0 ∧ nrm r = []
  ·rw [nrm, if_pos g] at h; exact absurd rfl h
  ·rw [C9 g]
   by_cases e : nrm r = []
   ·rw [e]; simp; exact fun hx => g ⟨hx, e⟩
   ·have := ih e
    have hp : 0 < (nrm r).length := List.length_pos_iff.2 e
    obtain ⟨k, hk⟩ : ∃ k, (nrm r).length = k + 1 := ⟨(nrm r).length - 1, by omega⟩
    rw [hk] at this
    simp [hk]
    simpa using this
theorem Lo {l : List Nat} (h : nrm l ≠ []) : 4294967296 ^ ((nrm l).length - 1) ≤ val l := by
 induction l with
 | nil => simp [nrm] at h
 | cons x r ih =>
  by_cases g : x = 0 ∧ nrm r = []
  ·rw [nrm, if_pos g] at h; exact absurd rfl h
  ·rw [C9 g, val]
   by_cases e : nrm r = []
   ·rw [e]; simp
    have : x ≠ 0 := fun hx => g ⟨hx, e⟩
    omega
   ·have := ih e
    have hp : 0 < (nrm r).length := List.length_pos_iff.2 e
    obtain ⟨k, hk⟩ : ∃ k, (nrm r).length = k + 1 := ⟨(nrm r).length - 1, by omega⟩
    rw [hk] at this
    simp only [List.length_cons, hk, Nat.add_sub_cancel] at this ⊢
    rw [Nat.pow_succ, Nat.mul_comm]
    have h3 : 4294967296 * 4294967296 ^ k ≤ 4294967296 * val r := Nat.mul_le_mul_left _ this
    omega
theorem Io (l : List Nat) : val l = l.getD 0 0 + 4294967296 * val l.tail := by
 cases l with
 | nil => simp [val]
 | cons x r => simp [val]
theorem Dd (l : List Nat) (j : Nat) : l.tail.getD j 0 = l.getD (j + 1) 0 := by
 cases l with
 | nil => simp
 | cons x r => simp
theorem Ws.tl {l : List Nat} (h : Ws l) : Ws l.tail := fun u hu => h u (List.mem_of_mem_tail hu)
theorem Wa : ∀ (n : Nat) (l m : List Nat), l.length ≤ n → m.length ≤ n → (∀ j, l.getD j 0 = m.getD j 0) → val l = val m
 | 0, l, m, hl, hm, _ => by
  rw [List.eq_nil_of_length_eq_zero (by omega : l.length = 0), List.eq_nil_of_length_eq_zero (by omega : m.length = 0)]
 | n + 1, l, m, hl, hm, h => by
  rw [Io l, Io m, h 0, Wa n l.tail m.tail (by rw [List.length_tail]; omega) (by rw [List.length_tail]; omega) (fun j => by rw [Dd, Dd, h])]
theorem Oc {l m : List Nat} (h : ∀ j, l.getD j 0 = m.getD j 0) : val l = val m := Wa (l.length + m.length) l m (by omega) (by omega) h
theorem Uf : ∀ (i : Nat) (l m : List Nat), Ws l → Ws m → (∀ j, i < j → l.getD j 0 = m.getD j 0) → l.getD i 0 < m.getD i 0 → val l < val m
 | 0, l, m, _, _, h, hlt => by
  rw [Io l, Io m, Oc (l := l.tail) (m := m.tail) (fun j => by rw [Dd, Dd, h (j + 1) (by omega)])]
  omega
 | i + 1, l, m, hl, hm, h, hlt => by
  have ih := Uf i l.tail m.tail hl.tl hm.tl (fun j hj => by rw [Dd, Dd, h (j + 1) (by omega)]) (by rw [Dd, Dd]; exact hlt)
  have h1 : l.getD 0 0 < 4294967296 := by
   rw [List.getD_eq_getElem?_getD]
   cases e : l[0]? with
   | none => simp
   | some u => exact hl.get e
  rw [Io l, Io m]
  omega
theorem Jp {l m : List Nat} (hl : Ws l) (h : (nrm l).length < (nrm m).length) : val l < val m := by
 have h1 := Dk hl.nrm
 rw [Ar] at h1
 have h2 := Lo (l := m) (fun e => by rw [e] at h; simp at h)
 have h3 : 4294967296 ^ (nrm l).length ≤ 4294967296 ^ ((nrm m).length - 1) := Nat.pow_le_pow_right (by omega) (by omega)
 omega
def L7 : Nat → Nat → List Nat
 | 0, _ => []
 | f + 1, n => if n = 0 then [] else n % 4294967296 :: L7 f (n / 4294967296)
def wds (n : Nat) : List Nat := L7 n n
theorem Wf : ∀ f n : Nat, Ws (L7 f n)
 | 0, _ => Ws.nil
 | f + 1, n => by
  unfold L7
  split
  ·exact Ws.nil
  ·exact Ws.cons (by omega) (Wf f _)
theorem Ey (n : Nat) : Ws (wds n) := Wf n n
theorem Jx : ∀ f n : Nat, n ≤ f → val (L7 f n) = n
 | 0, n, h => by simp [L7, val]; omega
 | f + 1, n, h => by
  unfold L7
  split
  ·next h0 => rw [h0]; rfl
  ·next h0 => rw [val, Jx f (n / 4294967296) (by omega)]; omega
theorem Ao (n : Nat) : val (wds n) = n := Jx n n (Nat.le_refl _)
theorem P0 : ∀ f n : Nat, n ≤ f → nrm (L7 f n) = L7 f n
 | 0, _, _ => rfl
 | f + 1, n, h => by
  unfold L7
  split
  ·rfl
  ·next h0 =>
   rw [C9, P0 f (n / 4294967296) (by omega)]
   rintro ⟨h1, h2⟩
   have h3 := Kr h2
   rw [Jx f (n / 4294967296) (by omega)] at h3
   omega
theorem Hi (n : Nat) : nrm (wds n) = wds n := P0 n n (Nat.le_refl _)
theorem Cb {l : List Nat} (h : Ws l) : nrm l = wds (val l) := by
 rw [← Hi (val l)]
 exact Wk h (Ey _) (Ao _).symm
theorem Cf {n k : Nat} (h : n < 4294967296 ^ k) : (wds n).length ≤ k := by
 rcases Nat.lt_or_ge k (wds n).length with h1 | h1
 ·have h2 := Lo (l := wds n) (by rw [Hi]; intro e; rw [e] at h1; simp at h1)
  rw [Hi, Ao] at h2
  have h3 : 4294967296 ^ k ≤ 4294967296 ^ ((wds n).length - 1) := Nat.pow_le_pow_right (by omega) (by omega)
  omega
 ·exact h1
theorem Gw (n : Nat) : n < 4294967296 ^ (wds n).length := by
 have := Dk (Ey n)
 rw [Ao] at this
 exact this
/-! ### part by part -/
theorem Kn (l : List Nat) (y : Nat) : val (l ++ [y]) = val l + 4294967296 ^ l.length * y := by rw [Fk]; simp [val]
theorem Bi (l : List Nat) (k : Nat) (h : k < l.length) : val (l.take (k + 1)) = val (l.take k) + 4294967296 ^ k * l.getD k 0 := by
 have e : l[k] = l.getD k 0 := by rw [List.getD_eq_getElem?_getD, List.getElem?_eq_getElem h]; rfl
 have hk : (l.take k).length = k := by rw [List.length_take]; omega
 rw [List.take_succ_eq_append_getElem h, Kn, hk, e]
theorem F2 (l : List Nat) (i k : Nat) (h : i ≤ l.length) : val (l.take (i + k)) = val (l.take i) + 4294967296 ^ i * val ((l.drop i).take k) := by
 have hi : (l.take i).length = i := by rw [List.length_take]; omega
 rw [List.take_add, Fk, hi]
theorem Dt (l : List Nat) (i j : Nat) : (l.drop i).getD j 0 = l.getD (i + j) 0 := by
 rw [List.getD_eq_getElem?_getD, List.getD_eq_getElem?_getD, List.getElem?_drop]
theorem M5 {l : List Nat} {k j : Nat} (h : j < k) : (l.take k).getD j 0 = l.getD j 0 := by
 rw [List.getD_eq_getElem?_getD, List.getD_eq_getElem?_getD, List.getElem?_take, if_pos h]
theorem Bg {l : List Nat} {k y : Nat} (h : k < l.length) : (l.set k y).getD k 0 = y := by
 rw [List.getD_eq_getElem?_getD, List.getElem?_set_self h]; rfl
theorem Al {l : List Nat} {k j y : Nat} (h : k ≠ j) : (l.set k y).getD j 0 = l.getD j 0 := by
 rw [List.getD_eq_getElem?_getD, List.getD_eq_getElem?_getD, List.getElem?_set_ne h]
theorem Ws.set {l : List Nat} (h : Ws l) {k y : Nat} (hy : y < 4294967296) : Ws (l.set k y) := fun u hu => by
 rcases List.mem_or_eq_of_mem_set hu with h1 | h1
 ·exact h u h1
 ·rw [h1]; exact hy
theorem Co {l m : List Nat} (k : Nat) (hl : k ≤ l.length) (hm : k ≤ m.length) (h : ∀ j, j < k → l.getD j 0 = m.getD j 0) : l.take k = m.take k := by
 apply List.ext_getElem?
 intro j
 rw [List.getElem?_take, List.getElem?_take]
 split
 ·next hj =>
  have := h j hj
  rw [List.getElem?_eq_getElem (by omega), List.getElem?_eq_getElem (by omega)]
  rw [List.getD_eq_getElem?_getD, List.getD_eq_getElem?_getD, List.getElem?_eq_getElem (by omega), List.getElem?_eq_getElem (by omega)] at this
  exact congrArg some this
 ·rfl
theorem Dn {l m : List Nat} (i k : Nat) (hl : i + k ≤ l.length) (hm : i + k ≤ m.length) (h : ∀ j, i ≤ j → j < i + k → l.getD j 0 = m.getD j 0) : (l.drop i).take k = (m.drop i).take k :=
 Co k (by rw [List.length_drop]; omega) (by rw [List.length_drop]; omega) (fun j hj => by rw [Dt, Dt]; exact h _ (by omega) (by omega))
theorem Au (l : List Nat) (i k : Nat) (h : i + k < l.length) : val ((l.drop i).take (k + 1)) = val ((l.drop i).take k) + 4294967296 ^ k * l.getD (i + k) 0 := by
 rw [Bi (l.drop i) k (by rw [List.length_drop]; omega), Dt]
theorem Nv {l : List Nat} (h : ∀ j, l.getD j 0 = 0) : val l = 0 := by
 have := Oc (l := l) (m := []) (fun j => by rw [h]; simp)
 rw [this]; rfl
theorem Fh (P t v w : Nat) (h : v + P * t = w) : (v + P * (t % 4294967296)) + (P * 4294967296) * (t / 4294967296) = w := by
 have := Nat.mod_add_div t 4294967296
 grind
theorem At (l : List Nat) (k : Nat) : val (l.take (k + 1)) = val (l.take k) + 4294967296 ^ k * l.getD k 0 := by
 rcases Nat.lt_or_ge k l.length with h | h
 ·exact Bi l k h
 ·rw [List.take_of_length_le (by omega), List.take_of_length_le h, List.getD_eq_getElem?_getD, List.getElem?_eq_none h]; simp
theorem Be {l : List Nat} {k : Nat} (h : l.length ≤ k) : val (l.take k) = val l := by rw [List.take_of_length_le h]
structure SumT (a b : List Nat) (k : Nat) (S : List Nat) (c : Nat) : Prop where
 ws : Ws S
 sum : val (S.take k) + 4294967296 ^ k * c = val (a.take k) + val (b.take k)
 low : c ≤ 1
theorem SumT.start (a b S : List Nat) (h : Ws S) : SumT a b 0 S 0 := ⟨h, by simp [val], by omega⟩
def U5 (a b : List Nat) (k c : Nat) : Nat := a.getD k 0 + b.getD k 0 + c
theorem Vz {a b : List Nat} {k c : Nat} (ha : Ws a) (hb : Ws b) (hc : c ≤ 1) : U5 a b k c < 8589934592 := by
 have h1 := ha.getD k
 have h2 := hb.getD k
 unfold U5
 omega
theorem SumT.next {a b : List Nat} {k : Nat} {S T : List Nat} {c : Nat} (h : SumT a b k S c) (ha : Ws a) (hb : Ws b) (hT : Ws T) (e1 : T.take k = S.take k) (e2 : T.getD k 0 = U5 a b k c % 4294967296) :
  SumT a b (k + 1) T (U5 a b k c / 4294967296) := by
 have hlt := Vz (k := k) ha hb h.low
 refine ⟨hT, ?_, by omega⟩
 have hs := h.sum
 rw [At T k, e1, e2, At a k, At b k]
 have e := Fh (4294967296 ^ k) (U5 a b k c) (val (S.take k)) (val (a.take k) + 4294967296 ^ k * a.getD k 0 + (val (b.take k) + 4294967296 ^ k * b.getD k 0)) (by unfold U5; grind)
 rw [Nat.pow_succ]
 exact e
theorem Tp {P Q va vb vS c : Nat} (h1 : va < P) (h2 : vb < P) (h3 : 2 * P ≤ Q) (hs : vS + Q * c = va + vb) : vS = va + vb := by
 rcases Nat.eq_zero_or_pos c with h0 | h0
 ·rw [h0, Nat.mul_zero] at hs; omega
 ·have h6 : Q * 1 ≤ Q * c := Nat.mul_le_mul_left _ h0
  omega
theorem M8 (n : Nat) : 2 * 4294967296 ^ n ≤ 4294967296 ^ (n + 1) := by
 rw [Nat.pow_succ, Nat.mul_comm]
 exact Nat.mul_le_mul_left _ (by omega)
theorem SumT.whole {a b : List Nat} {n : Nat} {S : List Nat} {c : Nat} (h : SumT a b (n + 1) S c) (ha : Ws a) (hb : Ws b) (hn : a.length ≤ n) (hm : b.length ≤ n) (hS : S.length = n + 1) : val S = val a + val b := by
 have hs := h.sum
 rw [Be (Nat.le_of_eq hS), Be (Nat.le_succ_of_le hn), Be (Nat.le_succ_of_le hm)] at hs
 exact Tp (Nat.lt_of_lt_of_le (Dk ha) (Nat.pow_le_pow_right (by omega) hn)) (Nat.lt_of_lt_of_le (Dk hb) (Nat.pow_le_pow_right (by omega) hm)) (M8 n) hs
theorem Pq {P va vb vS c : Nat} (h1 : vS < P) (h2 : vb ≤ va) (hs : vS + vb = va + P * c) : vS = va - vb := by
 rcases Nat.eq_zero_or_pos c with h0 | h0
 ·rw [h0, Nat.mul_zero] at hs; omega
 ·have h6 : P * 1 ≤ P * c := Nat.mul_le_mul_left _ h0
  omega
structure SubT (a b : List Nat) (k : Nat) (S : List Nat) (c : Nat) : Prop where
 ws : Ws S
 sum : val (S.take k) + val (b.take k) = val (a.take k) + 4294967296 ^ k * c
 low : c ≤ 1
theorem SubT.start (a b S : List Nat) (h : Ws S) : SubT a b 0 S 0 := ⟨h, by simp [val], by omega⟩
def Y0 (a b : List Nat) (k c : Nat) : Nat := (a.getD k 0 + 4294967296 * 2 - b.getD k 0 - c) % 4294967296
def Xn (a b : List Nat) (k c : Nat) : Nat := if a.getD k 0 < b.getD k 0 + c then 1 else 0
theorem SubT.next {a b : List Nat} {k : Nat} {S T : List Nat} {c : Nat} (h : SubT a b k S c) (ha : Ws a) (hb : Ws b) (hT : Ws T) (e1 : T.take k = S.take k) (e2 : T.getD k 0 = Y0 a b k c) :
  SubT a b (k + 1) T (Xn a b k c) := by
 have h1 := ha.getD k
 have h2 := hb.getD k
 have h3 := h.low
 have hs := h.sum
 refine ⟨hT, ?_, by unfold Xn; split <;> omega⟩
 rw [At T k, e1, e2, At a k, At b k]
 have key : Y0 a b k c + b.getD k 0 + c = a.getD k 0 + 4294967296 * Xn a b k c := by
  unfold Y0 Xn
  split <;> omega
 rw [Nat.pow_succ]
 have : 4294967296 ^ k * (Y0 a b k c + b.getD k 0 + c) = 4294967296 ^ k * (a.getD k 0 + 4294967296 * Xn a b k c) := by rw [key]
 grind
theorem SubT.whole {a b : List Nat} {n : Nat} {S : List Nat} {c : Nat} (h : SubT a b n S c) (hn : a.length ≤ n) (hm : b.length ≤ n) (hS : S.length = n) (hle : val b ≤ val a) : val S = val a - val b := by
 have hs := h.sum
 rw [Be (by omega), Be hn, Be hm] at hs
 have h1 := Dk h.ws
 rw [hS] at h1
 exact Pq h1 hle hs
theorem Ep {s : Nat} (hs : s ≤ 32) : 2 ^ s * 2 ^ (32 - s) = 4294967296 := by
 rw [← Nat.pow_add, show s + (32 - s) = 32 by omega]
def Ie (a : List Nat) (s k : Nat) : Nat := if k = 0 then 0 else a.getD (k - 1) 0 / 2 ^ (32 - s)
def Kh (a : List Nat) (s k : Nat) : Nat := a.getD k 0 * 2 ^ s % 4294967296 + Ie a s k
theorem P9 (x s : Nat) (hs : s ≤ 32) : x * 2 ^ s / 4294967296 = x / 2 ^ (32 - s) := by
 rw [← Ep hs, Nat.mul_comm x, Nat.mul_div_mul_left _ _ (Nat.two_pow_pos s)]
theorem E6 (x s : Nat) (hs : s ≤ 32) : x * 2 ^ s % 4294967296 = 2 ^ s * (x % 2 ^ (32 - s)) := by
 rw [← Ep hs, Nat.mul_comm x, Nat.mul_mod_mul_left]
theorem J7 (y s : Nat) (hs : s ≤ 32) (hy : y < 4294967296) : y / 2 ^ (32 - s) < 2 ^ s := by
 rw [Nat.div_lt_iff_lt_mul (Nat.two_pow_pos _), Ep hs]; exact hy
theorem Adm (x y s : Nat) (hs : s ≤ 32) (hy : y < 4294967296) : (x * 2 ^ s % 4294967296) ||| (y / 2 ^ (32 - s)) = x * 2 ^ s % 4294967296 + y / 2 ^ (32 - s) := by
 rw [E6 x s hs, Nat.two_pow_add_eq_or_of_lt (J7 y s hs hy)]
theorem Wu (x y s : Nat) (hs : s ≤ 32) (hy : y < 4294967296) : x * 2 ^ s % 4294967296 + y / 2 ^ (32 - s) < 4294967296 := by
 have h1 := J7 y s hs hy
 have h2 : x % 2 ^ (32 - s) < 2 ^ (32 - s) := Nat.mod_lt _ (Nat.two_pow_pos _)
 rw [E6 x s hs]
 have h3 : 2 ^ s * (x % 2 ^ (32 - s) + 1) ≤ 2 ^ s * 2 ^ (32 - s) := Nat.mul_le_mul_left _ h2
 rw [Ep hs, Nat.mul_add, Nat.mul_one] at h3
 omega
theorem Afe {a : List Nat} (ha : Ws a) (s k : Nat) (hs : s ≤ 32) : Kh a s k < 4294967296 := by
 unfold Kh Ie
 split
 ·omega
 ·exact Wu _ _ s hs (ha.getD _)
structure ShlP (R : List Nat) (o : Nat) (a : List Nat) (s k : Nat) (S : List Nat) : Prop where
 len : S.length = R.length
 ws : Ws S
 far : ∀ j, j < o ∨ o + k ≤ j → S.getD j 0 = R.getD j 0
 sum : val ((S.drop o).take k) + 4294967296 ^ k * Ie a s k = 2 ^ s * val (a.take k)
theorem ShlP.start {R : List Nat} (o : Nat) (a : List Nat) (s : Nat) (hR : Ws R) : ShlP R o a s 0 R := ⟨rfl, hR, fun _ _ => rfl, by simp [val, Ie]⟩
theorem ShlP.next {R : List Nat} {o : Nat} {a : List Nat} {s k : Nat} {S : List Nat} (h : ShlP R o a s k S) (ha : Ws a) (hs : s ≤ 32) (ho : o + k < R.length) :
  ShlP R o a s (k + 1) (S.set (o + k) (Kh a s k)) := by
 obtain ⟨h1, h2, h3, h4⟩ := h
 refine ⟨by rw [List.length_set]; exact h1, h2.set (Afe ha s k hs), fun j hj => by rw [Al (by omega), h3 j (by omega)], ?_⟩
 rw [Au _ o k (by rw [List.length_set]; omega), At a k, Bg (by omega)]
 rw [Dn (l := S.set (o + k) (Kh a s k)) (m := S) o k (by rw [List.length_set]; omega) (by omega) (fun j _ hj => Al (by omega))]
 have e1 : Ie a s (k + 1) = a.getD k 0 * 2 ^ s / 4294967296 := by
  unfold Ie; rw [if_neg (by omega), Nat.add_sub_cancel, P9 _ s hs]
 have e := Fh (4294967296 ^ k) (a.getD k 0 * 2 ^ s) (val ((S.drop o).take k) + 4294967296 ^ k * Ie a s k) (2 ^ s * (val (a.take k) + 4294967296 ^ k * a.getD k 0)) (by rw [h4]; grind)
 rw [e1, Nat.pow_succ]
 unfold Kh
 grind
theorem ShlP.whole {R : List Nat} {o : Nat} {a : List Nat} {s n : Nat} {S : List Nat} (h : ShlP R o a s n S) (hn : a.length < n) : val ((S.drop o).take n) = 2 ^ s * val a := by
 have h4 := h.sum
 have e : Ie a s n = 0 := by
  unfold Ie
  split
  ·rfl
  ·rw [List.getD_eq_getElem?_getD, List.getElem?_eq_none (by omega)]; simp
 rw [e, Nat.mul_zero, Nat.add_zero, Be (l := a) (by omega)] at h4
 exact h4
def Hd (a : List Nat) (s k : Nat) : Nat := a.getD (k + 1) 0 * 2 ^ (32 - s) % 4294967296 + a.getD k 0 / 2 ^ s
theorem Aex {a : List Nat} (ha : Ws a) (s k : Nat) (hs : s ≤ 32) : Hd a s k < 4294967296 := by
 unfold Hd
 have := Wu (a.getD (k + 1) 0) (a.getD k 0) (32 - s) (by omega) (ha.getD k)
 rw [show 32 - (32 - s) = s by omega] at this
 exact this
structure ShrP (R : List Nat) (o : Nat) (a : List Nat) (s k : Nat) (S : List Nat) : Prop where
 len : S.length = R.length
 ws : Ws S
 far : ∀ j, j < o ∨ o + k ≤ j → S.getD j 0 = R.getD j 0
 sum : 2 ^ s * val ((S.drop o).take k) + a.getD 0 0 % 2 ^ s = val (a.take k) + 4294967296 ^ k * (a.getD k 0 % 2 ^ s)
theorem ShrP.start {R : List Nat} (o : Nat) (a : List Nat) (s : Nat) (hR : Ws R) : ShrP R o a s 0 R := ⟨rfl, hR, fun _ _ => rfl, by simp [val]⟩
theorem Uo (a : List Nat) (s k : Nat) (hs : s ≤ 32) : 2 ^ s * Hd a s k + a.getD k 0 % 2 ^ s = a.getD k 0 + 4294967296 * (a.getD (k + 1) 0 % 2 ^ s) := by
 have h1 := Nat.div_add_mod (a.getD k 0) (2 ^ s)
 have h2 := E6 (a.getD (k + 1) 0) (32 - s) (by omega)
 rw [show 32 - (32 - s) = s by omega] at h2
 have h3 := Ep hs
 unfold Hd
 rw [h2, ← h3]
 generalize 2 ^ s = P at *
 generalize 2 ^ (32 - s) = Q at *
 generalize a.getD (k + 1) 0 % P = z at *
 have e : P * (Q * z + a.getD k 0 / P) = P * Q * z + P * (a.getD k 0 / P) := by rw [Nat.mul_add, Nat.mul_assoc]
 omega
theorem ShrP.next {R : List Nat} {o : Nat} {a : List Nat} {s k : Nat} {S : List Nat} (h : ShrP R o a s k S) (ha : Ws a) (hs : s ≤ 32) (ho : o + k < R.length) :
  ShrP R o a s (k + 1) (S.set (o + k) (Hd a s k)) := by
 obtain ⟨h1, h2, h3, h4⟩ := h
 refine ⟨by rw [List.length_set]; exact h1, h2.set (Aex ha s k hs), fun j hj => by rw [Al (by omega), h3 j (by omega)], ?_⟩
 rw [Au _ o k (by rw [List.length_set]; omega), At a k, Bg (by omega)]
 rw [Dn (l := S.set (o + k) (Hd a s k)) (m := S) o k (by rw [List.length_set]; omega) (by omega) (fun j _ hj => Al (by omega))]
 have e := Uo a s k hs
 rw [Nat.pow_succ]
 generalize 4294967296 ^ k = K at *
 generalize Hd a s k = W at *
 have e2 : K * (2 ^ s * W + a.getD k 0 % 2 ^ s) = K * (a.getD k 0 + 4294967296 * (a.getD (k + 1) 0 % 2 ^ s)) := by rw [e]
 grind
theorem ShrP.whole {R : List Nat} {o : Nat} {a : List Nat} {s n : Nat} {S : List Nat} (h : ShrP R o a s n S) (hn : a.length ≤ n) : val ((S.drop o).take n) = val a / 2 ^ s := by
 have h4 := h.sum
 have e : a.getD n 0 = 0 := by rw [List.getD_eq_getElem?_getD, List.getElem?_eq_none hn]; rfl
 rw [e, Nat.zero_mod, Nat.mul_zero, Nat.add_zero, Be (l := a) hn] at h4
 rw [← h4, Nat.add_comm, Nat.add_mul_div_left _ _ (Nat.two_pow_pos s), Nat.div_eq_of_lt (Nat.mod_lt _ (Nat.two_pow_pos s)), Nat.zero_add]
def RW (w : World) (B : Nat) (A : Option Addr) (l : List Nat) : Prop :=
 Ws l ∧ (0 < l.length → ∃ b off, A = some ⟨b, off, none⟩ ∧ b < B ∧ ∀ k u : Nat, l[k]? = some u → w.cell? ⟨b, off + k, none⟩ = some (.int .u32 (u : Int)))
def Sl (w : World) (B : Nat) (v : Value) (l : List Nat) : Prop := ∃ A c, v = .slice A l.length c ∧ l.length ≤ c ∧ RW w B A l
theorem RW.nil (w : World) (B : Nat) (A : Option Addr) : RW w B A [] := ⟨Ws.nil, fun h => by simp at h⟩
theorem RW.keep {w w' : World} {B : Nat} {A : Option Addr} {l : List Nat} (h : RW w B A l) (hk : ∀ p : Addr, p.block < B → w'.cell? p = w.cell? p) : RW w' B A l := ⟨h.1, fun hl => by
 obtain ⟨b, off, e, hb, hc⟩ := h.2 hl
 exact ⟨b, off, e, hb, fun k u hu => (hk ⟨b, off + k, none⟩ hb).trans (hc k u hu)⟩⟩
theorem RW.more {w : World} {B C : Nat} {A : Option Addr} {l : List Nat} (h : RW w B A l) (hB : B ≤ C) : RW w C A l := ⟨h.1, fun hl => by
 obtain ⟨b, off, e, hb, hc⟩ := h.2 hl
 exact ⟨b, off, e, by omega, hc⟩⟩
theorem RW.below {w w' : World} {B : Nat} {A : Option Addr} {l : List Nat} (h : RW w B A l) (hb : Below B w w') : RW w' B A l := h.keep fun _ hp => hb.cell hp
theorem RW.drewN {w : World} {B : Nat} {A : Option Addr} {l : List Nat} (h : RW w B A l) (n : Nat) : RW (w.drewN n) B A l := h
theorem RW.take {w : World} {B : Nat} {A : Option Addr} {l : List Nat} (h : RW w B A l) (n : Nat) : RW w B A (l.take n) := ⟨h.1.take n, fun hl => by
 obtain ⟨b, off, e, hb, hc⟩ := h.2 (by rw [List.length_take] at hl; omega)
 refine ⟨b, off, e, hb, fun k u hu => hc k u ?_⟩
 rw [List.getElem?_take] at hu
 split at hu
 ·exact hu
 ·cases hu⟩
theorem RW.step {w w' : World} {A : Option Addr} {l : List Nat} (h : RW w w.heap.size A l) (hb : Below w.heap.size w w') : RW w' w'.heap.size A l := (h.below hb).more hb.size
theorem Ba {l : List Nat} {k : Nat} (h : k < l.length) : l[k]? = some (l.getD k 0) := by
 rw [List.getD_eq_getElem?_getD, List.getElem?_eq_getElem h]; rfl
theorem Ic {l : List Nat} {k : Nat} (h : l.length ≤ k) : l.getD k 0 = 0 := by
 rw [List.getD_eq_getElem?_getD, List.getElem?_eq_none h]; rfl
theorem Sl.nil (w : World) (B c : Nat) : Sl w B (.slice none 0 c) [] := ⟨none, c, rfl, Nat.zero_le _, RW.nil _ _ _⟩
theorem Sl.mk {w : World} {B n c : Nat} {A : Option Addr} {l : List Nat} (hn : l.length = n) (hc : n ≤ c) (h : RW w B A l) : Sl w B (.slice A n c) l := ⟨A, c, by rw [hn], by omega, h⟩
theorem Ae {B : Nat} {a w : World} (h : Below B a w) (n : Nat) : Below B a (w.drewN n) := ⟨h.os, h.tape, h.output, h.size, h.block⟩
theorem Aa {W w w' : World} (h : Below W.heap.size W w) (h2 : Below w.heap.size w w') : Below W.heap.size W w' := h.trans (h2.mono h.size)
theorem Fw {a b : Bool} (h : a = b) : Ending.returned (.bool a) = .returned (.bool b) := by rw [h]
theorem Ge {a b : Int} (h : a = b) : Ending.returned (.int .i64 a) = .returned (.int .i64 b) := by rw [h]
theorem Aam (A : Option Addr) (c : Nat) (w : World) : Cq 218 #[.slice A 0 c] (.slice A 0 0) w := by
 go_enter Tryz.func218, Tryz.ntmps218
 go_wp2
 go_loop [3] (fun i => i = .int .i64 0) (fun _ => 0)
 case atStart => exact rfl
 case round =>
  obtain rfl := hrel
  go_wp2
  go_ret
  exact ⟨rfl, rfl⟩
theorem Acf (b off n c : Nat) (l : List Nat) (w : World) (hn : l.length = n) (hc : n ≤ c) (hm : n ≤ 35184372088832) (h : ∀ k u : Nat, l[k]? = some u → w.cell? ⟨b, off + k, none⟩ = some (.int .u32 (u : Int))) :
  Cq 218 #[.slice (some ⟨b, off, none⟩) n c] (.slice (some ⟨b, off, none⟩) (nrm l).length (nrm l).length) w := by
 have HN := Lh hn
 have HC := Lh h
 have hm1 : (n : Int) ≤ 35184372088832 := by omega
 have hc1 : (n : Int) ≤ (c : Int) := by omega
 clear hn h
 go_enter Tryz.func218, Tryz.ntmps218
 go_wp2
 go_loop [3] (fun i => ∃ k : Nat, i = .int .i64 k ∧ k ≤ n ∧ Hid (∀ j, k ≤ j → j < l.length → l.getD j 0 = 0)) (fun i => (intOf i).toNat)
 case atStart => exact ⟨n, rfl, Nat.le_refl _, Lh (fun j h1 h2 => by have := HN.out; omega)⟩
 case round =>
  obtain ⟨k, rfl, hk, HZ⟩ := hrel
  by_cases h0 : k = 0
  ·have HE := Lh (show (nrm l).length = k by rw [Ka l k (by have := HN.out; omega) HZ.out (.inl h0), List.length_take]; omega)
   subst h0
   go_wp2
   go_ret
   rw [HE.out]
   exact ⟨rfl, rfl⟩
  ·obtain ⟨j, rfl⟩ : ∃ j, k = j + 1 := ⟨k - 1, by omega⟩
   have hj : j < l.length := by have := HN.out; omega
   have hcell := HC.out j _ (Ba hj)
   have h1 : (j : Int) < (n : Int) := by omega
   by_cases hz : l.getD j 0 = 0
   ·rw [hz] at hcell
    have HZ2 := Lh (show ∀ i, j ≤ i → i < l.length → l.getD i 0 = 0 from fun i h2 h3 => by
     by_cases h4 : i = j
     ·rw [h4]; exact hz
     ·exact HZ.out i (by omega) h3)
    clear hz hj
    go_wp2
    go_round
    case rel => exact ⟨j, by go_num, by omega, HZ2⟩
    case measure => simp [intOf]
   ·have HE := Lh (show (nrm l).length = j + 1 by rw [Ka l (j + 1) (by omega) HZ.out (.inr (by simpa using hz)), List.length_take]; omega)
    obtain ⟨u, hu⟩ : ∃ u, l.getD j 0 = u := ⟨_, rfl⟩
    rw [hu] at hcell hz
    have hz' : ((u : Int) == 0) = false := by simp; omega
    have hjc : (j : Int) + 1 ≤ (c : Int) := by omega
    clear hu hj
    go_wp2
    go_ret
    rw [HE.out]
    exact ⟨rfl, rfl⟩
theorem Ak (A : Option Addr) (n c : Nat) (l : List Nat) (B : Nat) (w : World) (hn : l.length = n) (hc : n ≤ c) (hm : n ≤ 35184372088832) (h : RW w B A l) :
  Cq 218 #[.slice A n c] (.slice A (nrm l).length (nrm l).length) w := by
 rcases Nat.eq_zero_or_pos n with h0 | h0
 ·subst h0
  obtain rfl : l = [] := List.eq_nil_of_length_eq_zero hn
  exact Aam A c w
 ·obtain ⟨b, off, rfl, _, hcell⟩ := h.2 (by omega)
  exact Acf b off n c l w hn hc hm hcell
theorem RW.nrm {w : World} {B : Nat} {A : Option Addr} {l : List Nat} (h : RW w B A l) : RW w B A (nrm l) := by rw [Hq]; exact h.take _
theorem F6 : (Tryz.prog.info? 129).map (fun i => (i.zero, i.size, i.bytes)) = some (some (.int .u32 0), 1, 4) := by kernel_rfl
abbrev OwnW (B : Nat) (l : List Nat) (v : Value) (w : World) : Prop := w.ownsRow B 129 1 v l.length (l.map fun u => Value.int .u32 (u : Nat))
theorem OwnW.nil (B : Nat) (w : World) : OwnW B [] (.slice none 0 0) w := World.ownsRow_nil _ _ _ _
theorem OwnW.sl {B : Nat} {l : List Nat} {v : Value} {w : World} (h : OwnW B l v w) (hw : Ws l) : Sl w w.heap.size v l := by
 rcases h.2 with ⟨rfl, h0⟩ | ⟨g, cap, cur, rfl, hB, hg, hcap, hmax, hcur, htk⟩
 ·obtain rfl : l = [] := List.eq_nil_of_length_eq_zero h0
  exact Sl.nil _ _ _
 ·refine ⟨_, cap, rfl, hcap, hw, fun hl => ⟨g, 0, rfl, (World.ownsRow.lt h g rfl).2, fun k u hu => ?_⟩⟩
  have := h.cells (g := g) rfl k (.int .u32 (u : Nat)) (by rw [List.getElem?_map, hu]; rfl)
  by_cases hz : k = 0
  ·subst hz; simpa [Addr.add] using this
  ·simpa [Addr.add, hz] using this
theorem Wo {w : World} {b off : Nat} {l : List Nat} (h : ∀ k u : Nat, l[k]? = some u → w.cell? ⟨b, off + k, none⟩ = some (.int .u32 (u : Int))) :
  ∀ (j : Nat) u, (l.map fun u => Value.int .u32 (u : Nat))[j]? = some u → w.cell? ((⟨b, off, none⟩ : Addr).add j) = some u := by
 intro j u hu
 rw [List.getElem?_map] at hu
 cases e : l[j]? with
 | none => rw [e] at hu; cases hu
 | some x =>
  rw [e] at hu
  simp only [Option.map_some, Option.some.injEq] at hu
  subst hu
  have := h j x e
  by_cases hz : j = 0
  ·subst hz; simpa [Addr.add] using this
  ·simpa [Addr.add, hz] using this
theorem Zw (l : List Nat) : ∀ u ∈ (l.map fun u => Value.int .u32 (u : Nat)), u.oneCell' = true := by
 intro u hu
 simp only [List.mem_map] at hu
 obtain ⟨x, _, rfl⟩ := hu
 rfl
def Vi (l : List Nat) (w : World) (e : Ending) (w' : World) : Prop := ∃ v, e = .returned v ∧ OwnW w.heap.size l v w' ∧ Below w.heap.size w w'
theorem OwnW.of_block {B g : Nat} {l : List Nat} {w : World} (hB : B ≤ g) (hl : l.length ≤ maxLen) (h : w.heap[g]? = some (.cells (l.map fun u => Value.int .u32 (u : Nat)).toArray 129 (0, 0))) :
  OwnW B l (.slice (some ⟨g, 0, none⟩) l.length l.length) w :=
 ⟨by simp, .inr ⟨g, l.length, _, rfl, hB, h, Nat.le_refl _, hl, by simp, by rw [List.toList_toArray]; exact List.take_of_length_le (by simp)⟩⟩
theorem Po (A : Option Addr) (n c : Nat) (l : List Nat) (w : World) (hn : l.length = n) (hc : n ≤ c) (hm : n ≤ 35184372088832) (h : RW w w.heap.size A l) :
  Cp 220 #[.slice A n c] w (Vi (nrm l) w) := by
 have c1 := fun W (h : RW W w.heap.size A l) => Ak A n c l w.heap.size W hn hc hm h
 obtain ⟨m, hm0⟩ : ∃ m, (nrm l).length = m := ⟨_, rfl⟩
 have hle : m ≤ n := by rw [← hm0, ← hn]; exact Bq l
 rw [hm0] at c1
 have hmk := run_make_row' (P := Tryz.prog) 121 129 (.int .u32 0) 4 Tryz.underlying121 F6 rfl .i64 .i64 m (by omega) (by omega) w
 have hmade := World.rowIs_made w (.int .u32 0) m 129
 have HC := Lh (h.nrm)
 have HM := Lh hm0
 have hm1 : (m : Int) ≤ 35184372088832 := by omega
 have HR := Lh h
 have HX := Lh hmade
 clear h hn hc hm hm0 hle hmade
 go_enter Tryz.func220, Tryz.ntmps220
 go_wp2_with (first | (go_at_call 218; refine (c1 _ HR.out).mono ?_; rintro e w' ⟨rfl, rfl⟩) | (with_reducible refine wpList_copy_splice rfl (.tmp 9) (.tmp 10) 121 121 rfl 129 Tryz.underlying121 (by kernel_rfl) (some ⟨w.heap.size, 0, none⟩) A m m m m ?e1 ?e2 w.heap.size 0 (List.replicate m (.int .u32 0)) 129 ?k1 ((nrm l).map fun u => Value.int .u32 (u : Nat)) ?k2 ?k3 ?k4 ?k5 w.heap.size w ?k6 (Nat.le_refl _) ?_))
 case e1 => rfl
 case e2 => rfl
 case k1 =>
  have e := heap_alloc_new w (.cells (madeCells #[Value.int .u32 0] m) 129)
  rw [show madeCells #[Value.int .u32 0] m = (List.replicate m (Value.int .u32 0)).toArray from Array.toList_inj.1 (by rw [toList_madeCells_one, List.toList_toArray])] at e ⊢
  exact e
 case k2 => rw [List.length_map, HM.out]; exact (Nat.min_self _).symm
 case k3 =>
  intro hp
  have hp' : 0 < (nrm l).length := by simpa using hp
  obtain ⟨b, off, e, hb, hc⟩ := HC.out.2 hp'
  refine ⟨⟨b, off, none⟩, e, fun j u hu => ?_⟩
  rw [World.cell?_alloc_lt]
  ·exact Wo hc j _ (by rw [List.getElem?_map, hu]; rfl)
  ·unfold Addr.add; split <;> exact hb
 case k4 => rw [List.length_map, HM.out, List.length_replicate]; omega
 case k5 => exact Zw _
 case k6 => exact (Below.refl _ _).alloc (Nat.le_refl _) _
 intro w2 HG2 hB2
 go_wp2
 go_ret
 refine ⟨_, rfl, ?_⟩
 have hG := HG2.out
 have e : splice (List.replicate m (Value.int .u32 0)) 0 ((nrm l).map fun u => Value.int .u32 (u : Nat)) = (nrm l).map fun u => Value.int .u32 (u : Nat) := by
  unfold splice
  rw [List.take_zero, List.nil_append, List.drop_of_length_le (by rw [List.length_replicate, List.length_map, HM.out]; omega), List.append_nil]
 rw [e] at hG
 have := OwnW.of_block (B := w.heap.size) (Nat.le_refl _) (by rw [HM.out]; unfold maxLen; omega) hG
 rw [HM.out] at this
 exact ⟨this, hB2⟩
def SlPost (l : List Nat) (w : World) (e : Ending) (w' : World) : Prop := ∃ v, e = .returned v ∧ Sl w' w'.heap.size v l ∧ Below w.heap.size w w'
theorem SlPost.of {l : List Nat} {w : World} {e : Ending} {w' : World} (hw : Ws l) (h : Vi l w e w') : SlPost l w e w' := by
 obtain ⟨v, e, ho, hb⟩ := h
 exact ⟨v, e, ho.sl hw, hb⟩
def two (n : Nat) : List Nat := [n % 4294967296, n / 4294967296]
theorem Ac3 (w : World) (x y : Nat) (hx : x < 4294967296) (hy : y < 4294967296) : RW (w.alloc (.cells #[.int .u32 (x : Int), .int .u32 (y : Int)] 129)) (w.heap.size + 1) (some ⟨w.heap.size, 0, none⟩) [x, y] := ⟨Ws.cons hx (Ws.cons hy Ws.nil), fun _ => by
 refine ⟨w.heap.size, 0, rfl, by omega, fun k u hu => ?_⟩
 rw [Nat.zero_add, cell_of_row _ _ _ _ _ _ (heap_alloc_new w (.cells #[.int .u32 (x : Int), .int .u32 (y : Int)] 129))]
 match k, hu with
 | 0, hu => simp at hu; subst hu; rfl
 | 1, hu => simp at hu; subst hu; rfl
 | k + 2, hu => simp at hu⟩
theorem Ac6 {n : Nat} (hn : n < 18446744073709551616) : Ws (two n) := Ws.cons (by omega) (Ws.cons (by omega) Ws.nil)
theorem Wg (n : Nat) : val (two n) = n := by simp only [two, val]; omega
theorem Kl (n : Nat) (hn : n < 18446744073709551616) (w : World) : Cp 187 #[.int .u64 n] w (SlPost (nrm (two n)) w) := by
 have c1 := Ak (some ⟨w.heap.size, 0, none⟩) 2 2 (two n) (w.heap.size + 1) _ rfl (Nat.le_refl _) (by omega) (Ac3 w (n % 4294967296) (n / 4294967296) (by omega) (by omega))
 have h1 : (n : Int) ≤ 18446744073709551615 := by omega
 have H := Ac3 w (n % 4294967296) (n / 4294967296) (by omega) (by omega)
 rw [show ((n % 4294967296 : Nat) : Int) = (n : Int) % 4294967296 by omega, show ((n / 4294967296 : Nat) : Int) = (n : Int) / 4294967296 by omega] at c1 H
 have HH := Lh H
 clear hn H
 go_enter Tryz.func187, Tryz.ntmps187
 go_wp2_with fail
 refine c1.mono ?_
 rintro e w' ⟨rfl, rfl⟩
 go_wp2
 go_ret
 refine ⟨_, rfl, Sl.mk rfl (Nat.le_refl _) (HH.out.nrm.more (by simp)), (Below.refl _ _).alloc (Nat.le_refl _) _⟩
def Row (w : World) (g : Nat) (R : List Nat) : Prop := w.heap[g]? = some (.cells (R.map fun u => Value.int .u32 (u : Nat)).toArray 129 (0, 0))
theorem Row.lt {w : World} {g : Nat} {R : List Nat} (h : Row w g R) : g < w.heap.size := by
 rcases Nat.lt_or_ge g w.heap.size with hlt | hge
 ·exact hlt
 ·unfold Row at h; rw [Array.getElem?_eq_none hge] at h; cases h
theorem Row.cell {w : World} {g : Nat} {R : List Nat} (h : Row w g R) (i : Nat) (hi : i < R.length) : w.cell? ⟨g, i, none⟩ = some (.int .u32 ((R.getD i 0 : Nat) : Int)) := by
 rw [cell_of_row w g i _ _ _ h, List.getElem?_toArray, List.getElem?_map, Ba hi]; rfl
theorem Row.frozen {w : World} {g : Nat} {R : List Nat} (h : Row w g R) (i : Nat) : w.frozen? ⟨g, i, none⟩ = false := by
 unfold Row at h
 simp [World.frozen?, h]
theorem Row.drewN {w : World} {g : Nat} {R : List Nat} (h : Row w g R) (n : Nat) : Row (w.drewN n) g R := h
theorem Row.below {w w' : World} {g B : Nat} {R : List Nat} (h : Row w g R) (hg : g < B) (hb : Below B w w') : Row w' g R := (hb.block g hg).trans h
theorem Row.set {w : World} {g : Nat} {R : List Nat} (h : Row w g R) (i u : Nat) : Row (w.setCell ⟨g, i, none⟩ (.int .u32 (u : Nat))) g (R.set i u) := by
 unfold Row at h ⊢
 rw [List.map_set]
 simp [World.setCell, Array.getElem?_modify, h]
theorem Row.rw {w : World} {g : Nat} {R : List Nat} (h : Row w g R) (hw : Ws R) (o n : Nat) (ho : o + n ≤ R.length) : RW w (g + 1) (some ⟨g, o, none⟩) ((R.drop o).take n) := ⟨(hw.drop o).take n, fun _ => by
 refine ⟨g, o, rfl, by omega, fun k u hu => ?_⟩
 rw [List.getElem?_take] at hu
 split at hu
 ·next hk =>
  rw [List.getElem?_drop] at hu
  have := h.cell (o + k) (by omega)
  rw [List.getD_eq_getElem?_getD, hu] at this
  exact this
 ·cases hu⟩
theorem Row.rw0 {w : World} {g : Nat} {R : List Nat} (h : Row w g R) (hw : Ws R) : RW w (g + 1) (some ⟨g, 0, none⟩) R := by
 have := h.rw hw 0 R.length (by omega)
 rw [List.drop_zero, List.take_of_length_le (Nat.le_refl _)] at this
 exact this
theorem Row.made (w : World) (n : Nat) : Row (w.alloc (.cells (madeCells #[.int .u32 0] n) 129)) w.heap.size (List.replicate n 0) := by
 have e := heap_alloc_new w (.cells (madeCells #[Value.int .u32 0] n) 129)
 unfold Row
 rw [show madeCells #[Value.int .u32 0] n = (List.replicate n (Value.int .u32 0)).toArray from Array.toList_inj.1 (by rw [toList_madeCells_one, List.toList_toArray])] at e ⊢
 rw [List.map_replicate]
 exact e
theorem Ws.zeros (n : Nat) : Ws (List.replicate n 0) := fun u hu => by rw [List.eq_of_mem_replicate hu]; omega
theorem Uv (n j : Nat) : (List.replicate n 0).getD j 0 = 0 := by
 rw [List.getD_eq_getElem?_getD, List.getElem?_replicate]
 split <;> rfl
def btl (l : List Nat) : Nat := if nrm l = [] then 0 else 32 * ((nrm l).length - 1) + Lib.bitLen (l.getD ((nrm l).length - 1) 0)
theorem F9 (x : Nat) (h : x < 4294967296) : Lib.bitLen x ≤ 32 := Lib.bitLen_le x 32 (by omega) h
theorem Eu (A : Option Addr) (n c : Nat) (l : List Nat) (B : Nat) (w : World) (hn : l.length = n) (hc : n ≤ c) (hm : n ≤ 35184372088832) (h : RW w B A l) :
  Cq 176 #[.slice A n c] (.int .i64 (btl l : Nat)) w := by
 have c1 := Ak A n c l B w hn hc hm h
 by_cases h0 : nrm l = []
 ·rw [h0] at c1
  have e : btl l = 0 := by unfold btl; rw [if_pos h0]
  rw [e]
  clear hn hc hm h h0 e
  go_enter Tryz.func176, Tryz.ntmps176
  go_wp2_with (go_at_call 218; refine c1.mono ?_; rintro e w' ⟨rfl, rfl⟩)
  go_ret
  exact ⟨rfl, rfl⟩
 ·have hle := Bq l
  have hp : 0 < (nrm l).length := List.length_pos_iff.2 h0
  have hx := h.1.getD ((nrm l).length - 1)
  have e : btl l = 32 * ((nrm l).length - 1) + Lib.bitLen (l.getD ((nrm l).length - 1) 0) := by unfold btl; rw [if_neg h0]
  obtain ⟨b, off, rfl, _, hcell⟩ := h.2 (by omega)
  obtain ⟨m, hm0⟩ : ∃ m, (nrm l).length = m + 1 := ⟨(nrm l).length - 1, by omega⟩
  have hcl := hcell m _ (Ba (by omega))
  rw [hm0, Nat.add_sub_cancel] at e hx
  rw [hm0] at c1
  obtain ⟨u, hu⟩ : ∃ u, l.getD m 0 = u := ⟨_, rfl⟩
  rw [hu] at hcl hx e
  have hb := F9 u hx
  have h1 : (m : Int) ≤ 35184372088832 := by omega
  have c2 := fun W => Tryz.bits_Len32 (u : Int) W (by omega) (by omega)
  rw [Int.toNat_natCast] at c2
  have HE := Lh e
  have hb1 : ((Lib.bitLen u : Nat) : Int) ≤ 32 := by omega
  clear hn hc hm h h0 e hle hp hx hcell hu hm0 hb
  go_enter Tryz.func176, Tryz.ntmps176
  go_wp2_with (first | (go_at_call 218; refine c1.mono ?_; rintro e w' ⟨rfl, rfl⟩) | (go_at_call 219; refine (c2 _).mono ?_; rintro e w' ⟨rfl, rfl⟩))
  go_ret
  exact ⟨Ge (by rw [HE.out]; omega), rfl⟩
def pv (r : Nat) (g : Nat → Nat) : Nat → Nat
 | 0 => 0
 | k + 1 => pv r g k * r + g k
theorem Tj (r : Nat) (g : Nat → Nat) (o : Nat) : ∀ n, pv r g (o + n) = pv r g o * r ^ n + pv r (fun i => g (o + i)) n
 | 0 => by simp [pv]
 | n + 1 => by
  rw [← Nat.add_assoc, pv, Tj r g o n, pv, Nat.pow_succ]
  grind
theorem We {r : Nat} {g : Nat → Nat} : ∀ {n : Nat}, (∀ i, i < n → g i < r) → pv r g n < r ^ n
 | 0, _ => by simp [pv]
 | n + 1, h => by
  have h1 := We (fun i hi => h i (by omega)) (r := r) (g := g) (n := n)
  have h2 := h n (by omega)
  rw [pv, Nat.pow_succ]
  have : (pv r g n + 1) * r ≤ r ^ n * r := Nat.mul_le_mul_right _ h1
  rw [Nat.add_mul] at this
  omega
theorem Ga {r : Nat} {g f : Nat → Nat} : ∀ {n : Nat}, (∀ i, i < n → g i = f i) → pv r g n = pv r f n
 | 0, _ => rfl
 | n + 1, h => by rw [pv, pv, Ga (fun i hi => h i (by omega)), h n (by omega)]
theorem Vx {r : Nat} {g : Nat → Nat} (hr : 0 < r) {k : Nat} : ∀ {n : Nat}, k ≤ n → pv r g k ≤ pv r g n
 | 0, h => by rw [show k = 0 by omega]; exact Nat.le_refl _
 | n + 1, h => by
  rcases Nat.eq_or_lt_of_le h with h1 | h1
  ·rw [h1]; exact Nat.le_refl _
  ·have h2 := Vx (r := r) (g := g) hr (k := k) (n := n) (by omega)
   rw [pv]
   have : pv r g n * 1 ≤ pv r g n * r := Nat.mul_le_mul_left _ hr
   omega
def dgt (c : Nat) : Nat := if 48 ≤ c ∧ c ≤ 57 then c - 48 else if 97 ≤ c ∧ c ≤ 122 then c - 97 + 10 else if 65 ≤ c ∧ c ≤ 90 then c - 65 + 10 else 36
theorem Acx (c : Nat) : dgt c ≤ 36 := by unfold dgt; split <;> (try split) <;> (try split) <;> omega
def btn (s : ByteArray) (k : Nat) : Nat := (s.data[k]?.getD 0).toNat
theorem Ks (s : ByteArray) (k : Nat) (h : k < s.size) : ((s[k]'h).toNat : Nat) = btn s k := by
 unfold btn
 rw [Array.getElem?_eq_getElem (by exact h)]; rfl
theorem Acy (s : ByteArray) (k : Nat) : btn s k < 256 := (s.data[k]?.getD 0).toNat_lt
def Afi (l : List Nat) (n : Nat) (w : World) (e : Ending) (w' : World) : Prop := ∃ A c, e = .returned (.slice A n c) ∧ (n ≤ c ∧ RW w' w'.heap.size A l) ∧ Below w.heap.size w w'
theorem SlPost.told {l : List Nat} {n : Nat} {w : World} {e : Ending} {w' : World} (h : SlPost l w e w') (hn : l.length = n) : Afi l n w e w' := by
 obtain ⟨v, rfl, ⟨A, c, rfl, hc, hr⟩, hb⟩ := h
 rw [hn] at hc ⊢
 exact ⟨A, c, rfl, ⟨hc, hr⟩, hb⟩
theorem Ahp (A : Option Addr) (n c : Nat) (l : List Nat) (m : Nat) (w : World) (hn : l.length = n) (hc : n ≤ c) (hm : n ≤ 35184372088832) (h : RW w w.heap.size A l) (hm2 : (nrm l).length = m) :
  Cp 220 #[.slice A n c] w (Afi (nrm l) m w) := (Po A n c l w hn hc hm h).mono fun _ _ x => (SlPost.of h.1.nrm x).told hm2
theorem Uc (p q : Nat) (hp : p < 4294967296) (hq : q < 4294967296) : bits BinOp.or IntKind.u32 (p : Int) (q : Int) = ((p ||| q : Nat) : Int) := by
 show IntKind.u32.wrap ((BitVec.ofInt 32 (p : Int) ||| BitVec.ofInt 32 (q : Int)).toNat : Int) = _
 have e1 : (BitVec.ofInt 32 (p : Int)).toNat = p := by rw [BitVec.ofInt_natCast, BitVec.toNat_ofNat]; exact Nat.mod_eq_of_lt (by omega)
 have e2 : (BitVec.ofInt 32 (q : Int)).toNat = q := by rw [BitVec.ofInt_natCast, BitVec.toNat_ofNat]; exact Nat.mod_eq_of_lt (by omega)
 have h : p ||| q < 4294967296 := Nat.or_lt_two_pow (n := 32) hp hq
 rw [BitVec.toNat_or, e1, e2, IntKind.wrap_u32]
 omega
theorem E9 (p q : Nat) (hp : p < 18446744073709551616) (hq : q < 18446744073709551616) : bits BinOp.or IntKind.u64 (p : Int) (q : Int) = ((p ||| q : Nat) : Int) := by
 show IntKind.u64.wrap ((BitVec.ofInt 64 (p : Int) ||| BitVec.ofInt 64 (q : Int)).toNat : Int) = _
 have e1 : (BitVec.ofInt 64 (p : Int)).toNat = p := by rw [BitVec.ofInt_natCast, BitVec.toNat_ofNat]; exact Nat.mod_eq_of_lt (by omega)
 have e2 : (BitVec.ofInt 64 (q : Int)).toNat = q := by rw [BitVec.ofInt_natCast, BitVec.toNat_ofNat]; exact Nat.mod_eq_of_lt (by omega)
 have h : p ||| q < 18446744073709551616 := Nat.or_lt_two_pow (n := 64) hp hq
 rw [BitVec.toNat_or, e1, e2, IntKind.wrap_u64]
 omega
theorem Qh (hi lo : Nat) (hl : lo < 4294967296) : (hi * 4294967296 ||| lo) = hi * 4294967296 + lo := by
 rw [Nat.mul_comm, show 4294967296 = 2 ^ 32 from rfl, ← Nat.two_pow_add_eq_or_of_lt hl]
theorem Eo (l : List Nat) (k : Nat) (h : k ≤ l.length) : val l = val (l.take k) + 4294967296 ^ k * val (l.drop k) := by
 have hk : (l.take k).length = k := by rw [List.length_take]; omega
 have := Fk (l.take k) (l.drop k)
 rw [List.take_append_drop, hk] at this
 exact this
theorem Kz {l : List Nat} {k : Nat} (h : val l < 4294967296 ^ k) : val (l.take k) = val l := by
 rcases Nat.lt_or_ge l.length k with h1 | h1
 ·rw [List.take_of_length_le (by omega)]
 ·have e := Eo l k h1
  rcases Nat.eq_zero_or_pos (val (l.drop k)) with h2 | h2
  ·rw [h2] at e; omega
  ·have : 4294967296 ^ k * 1 ≤ 4294967296 ^ k * val (l.drop k) := Nat.mul_le_mul_left _ h2
   omega
theorem D9 (l : List Nat) (i : Nat) (h : i < l.length) : val (l.drop i) = l.getD i 0 + 4294967296 * val (l.drop (i + 1)) := by
 rw [List.drop_eq_getElem_cons h, val]
 congr 1
 rw [List.getD_eq_getElem?_getD, List.getElem?_eq_getElem h]; rfl
/-! ### by a word -/
structure WordT (a : List Nat) (d i : Nat) (S : List Nat) (r : Nat) : Prop where
 len : S.length = a.length
 ws : Ws S
 far : ∀ j, j < i → S.getD j 0 = a.getD j 0
 sum : val (S.drop i) * d + r = val (a.drop i)
 low : r < d
theorem WordT.start {a : List Nat} {d : Nat} (h : Ws a) (hd : 0 < d) : WordT a d a.length a 0 :=
 ⟨rfl, h, fun _ _ => rfl, by rw [List.drop_of_length_le (Nat.le_refl _)]; simp [val], hd⟩
theorem WordT.next {a : List Nat} {d i : Nat} {S : List Nat} {r : Nat} (h : WordT a d (i + 1) S r) (ha : Ws a) (hi : i < a.length) (hd : d < 4294967296) :
  S.getD i 0 = a.getD i 0 ∧ (r * 4294967296 + a.getD i 0) / d < 4294967296 ∧ WordT a d i (S.set i ((r * 4294967296 + a.getD i 0) / d)) ((r * 4294967296 + a.getD i 0) % d) := by
 obtain ⟨h1, h2, h3, h4, h5⟩ := h
 have hx := ha.getD i
 have hd0 : 0 < d := by omega
 have hq : (r * 4294967296 + a.getD i 0) / d < 4294967296 := by
  rw [Nat.div_lt_iff_lt_mul hd0]
  have : (r + 1) * 4294967296 ≤ d * 4294967296 := Nat.mul_le_mul_right _ h5
  omega
 refine ⟨h3 i (by omega), hq, by rw [List.length_set]; exact h1, h2.set hq, fun j hj => by rw [Al (by omega)]; exact h3 j (by omega), ?_, Nat.mod_lt _ hd0⟩
 rw [D9 _ i (by rw [List.length_set]; omega), Bg (by omega), D9 a i hi, List.drop_set, if_pos (by omega)]
 have e := Nat.mod_add_div (r * 4294967296 + a.getD i 0) d
 generalize (r * 4294967296 + a.getD i 0) / d = q at *
 generalize (r * 4294967296 + a.getD i 0) % d = z at *
 generalize val (S.drop (i + 1)) = V at *
 rw [← h4]
 grind
theorem WordT.fin {a : List Nat} {d : Nat} {S : List Nat} {r : Nat} (h : WordT a d 0 S r) : val S = val a / d ∧ r = val a % d := by
 obtain ⟨h1, h2, h3, h4, h5⟩ := h
 rw [List.drop_zero, List.drop_zero] at h4
 have e1 : val a / d = val S := by
  rw [← h4, Nat.add_comm, Nat.add_mul_div_right _ _ (by omega), Nat.div_eq_of_lt h5, Nat.zero_add]
 have e2 := Nat.mod_add_div (val a) d
 rw [e1, Nat.mul_comm] at e2
 exact ⟨e1.symm, by omega⟩
theorem Ad3 {x k m : Nat} (hx : x = 2 ^ (k + 1) * m + 2 ^ k) (hl : x < 2 ^ 64) : x &&& (2 ^ 64 - x) = 2 ^ k := by
 have hp : 0 < 2 ^ k := Nat.two_pow_pos k
 have hk : 2 ^ k < 2 ^ (k + 1) := Nat.pow_lt_pow_right (by omega) (by omega)
 have hx0 : 0 < x := by omega
 apply Nat.eq_of_testBit_eq
 intro i
 have e1 : 2 ^ 64 - x = 2 ^ 64 - ((x - 1) + 1) := by omega
 rw [Nat.testBit_and, e1, Nat.testBit_two_pow_sub_succ (by omega), Nat.testBit_two_pow]
 have e2 : x - 1 = 2 ^ (k + 1) * m + (2 ^ k - 1) := by omega
 rw [e2, Nat.testBit_two_pow_mul_add m (by omega), hx, Nat.testBit_two_pow_mul_add m hk, Nat.testBit_two_pow, Nat.testBit_two_pow_sub_one]
 have hk64 : k < 64 := by
  have : 2 ^ k < 2 ^ 64 := by omega
  exact (Nat.pow_lt_pow_iff_right (a := 2) (by omega)).1 this
 by_cases h1 : i < k + 1
 ·rw [if_pos h1, if_pos h1]
  by_cases h2 : k = i
  ·subst h2; simp [hk64]
  ·have h3 : i < k := by omega
   simp [h2, h3]
 ·rw [if_neg h1, if_neg h1]
  have h2 : ¬ k = i := by omega
  simp [h2]
  intro h _
  exact h
def tzTab : List Int := [0, 1, 56, 2, 57, 49, 28, 3, 61, 58, 42, 50, 38, 29, 17, 4, 62, 47, 59, 36, 45, 43, 51, 22, 53, 39, 33, 30, 24, 18, 12, 5, 63, 55, 48, 27, 60, 41, 37, 16, 46, 35, 44, 21, 52, 32, 23, 11, 54, 26, 40, 15, 34, 20, 31, 10, 25, 14, 19, 9, 13, 8, 7, 6]
theorem Ab1 : ∀ k : Fin 64, 2 ^ k.val * 285870213051353865 % 18446744073709551616 / 288230376151711744 < 64 ∧ tzTab.getD (2 ^ k.val * 285870213051353865 % 18446744073709551616 / 288230376151711744) 0 = (k.val : Int) := by decide +kernel
theorem Aft {x k m : Nat} (hx : x = 2 ^ (k + 1) * m + 2 ^ k) (hl : x < 18446744073709551616) : bits BinOp.and IntKind.u64 (x : Int) (IntKind.u64.wrap (-(x : Int))) = ((2 ^ k : Nat) : Int) := by
 have hx0 : 0 < x := by have := Nat.two_pow_pos k; omega
 have e : IntKind.u64.wrap (-(x : Int)) = ((18446744073709551616 - x : Nat) : Int) := by rw [IntKind.wrap_u64]; omega
 rw [e]
 have h := Ad3 hx hl
 rw [show (2 : Nat) ^ 64 = 18446744073709551616 from rfl] at h
 rw [← h]
 generalize hy : 18446744073709551616 - x = y
 show IntKind.u64.wrap ((BitVec.ofInt 64 (x : Int) &&& BitVec.ofInt 64 (y : Int)).toNat : Int) = _
 have e1 : (BitVec.ofInt 64 (x : Int)).toNat = x := by rw [BitVec.ofInt_natCast, BitVec.toNat_ofNat]; exact Nat.mod_eq_of_lt (by omega)
 have e2 : (BitVec.ofInt 64 (y : Int)).toNat = y := by rw [BitVec.ofInt_natCast, BitVec.toNat_ofNat]; exact Nat.mod_eq_of_lt (by omega)
 have h2 : x &&& y ≤ x := Nat.and_le_left
 rw [BitVec.toNat_and, e1, e2, IntKind.wrap_u64]
 omega
def Cg (W : World) : Prop := ∀ i, i < 64 → W.cell? ⟨3, i, none⟩ = some (.int .u8 (tzTab.getD i 0))
theorem Ag1 (x k m : Nat) (w : World) (hx : x = 2 ^ (k + 1) * m + 2 ^ k) (hl : x < 18446744073709551616) (ht : Cg w) :
  Cq 199 #[.int .u64 x] (.int .i64 (k : Nat)) w := by
 have hk64 : k < 64 := by
  have : 2 ^ k < 2 ^ 64 := by omega
  exact (Nat.pow_lt_pow_iff_right (a := 2) (by omega)).1 this
 have hx0 : 0 < x := by have := Nat.two_pow_pos k; omega
 have k1 := Aft hx hl
 obtain ⟨t1, t2⟩ := Ab1 ⟨k, hk64⟩
 have hcell := ht _ t1
 rw [t2] at hcell
 simp only at t1 hcell
 have b0 : ((x : Int) == 0) = false := by rw [beq_eq_false_iff_ne]; omega
 obtain ⟨P, hP⟩ : ∃ P, 2 ^ k = P := ⟨_, rfl⟩
 rw [hP] at k1 t1 hcell
 obtain ⟨Q, hQ⟩ : ∃ Q, P * 285870213051353865 % 18446744073709551616 = Q := ⟨_, rfl⟩
 have k2 : IntKind.u64.wrap ((P : Int) * 285870213051353865) = (Q : Int) := by rw [IntKind.wrap_u64]; omega
 rw [hQ] at t1 hcell
 obtain ⟨i, hi⟩ : ∃ i, Q / 288230376151711744 = i := ⟨_, rfl⟩
 have k3 : (Q : Int) / 288230376151711744 = (i : Int) := by omega
 rw [hi] at t1 hcell
 have i1 : (i : Int) < 64 := by omega
 have i0 : (0 : Int) ≤ (i : Int) := by omega
 have hk1 : (k : Int) < 64 := by omega
 clear hx hl ht hx0 t2 hP hQ hi hk64
 go_enter Tryz.func199, Tryz.ntmps199
 go_wp2
 go_ret
 exact ⟨rfl, rfl⟩
end
section
structure AddT (R : List Nat) (o : Nat) (b : List Nat) (x : Nat) (k : Nat) (S : List Nat) (q : Nat) : Prop where
 len : S.length = R.length
 ws : Ws S
 far : ∀ j, j < o ∨ o + k ≤ j → S.getD j 0 = R.getD j 0
 sum : val ((S.drop o).take k) + 4294967296 ^ k * q = val ((R.drop o).take k) + x * val (b.take k)
 low : q < 4294967296
theorem AddT.start {R : List Nat} (o : Nat) (b : List Nat) (x : Nat) (hR : Ws R) : AddT R o b x 0 R 0 := ⟨rfl, hR, fun _ _ => rfl, by simp [val], by omega⟩
def Jc (R : List Nat) (o : Nat) (b : List Nat) (x k q : Nat) : Nat := q + (b.getD k 0 * x + R.getD (o + k) 0)
theorem Om {R : List Nat} {o : Nat} {b : List Nat} {x k q : Nat} (hR : Ws R) (hb : Ws b) (hx : x < 4294967296) (hq : q < 4294967296) :
  b.getD k 0 * x ≤ 18446744065119617025 ∧ b.getD k 0 * x + R.getD (o + k) 0 < 18446744073709551616 ∧ Jc R o b x k q < 18446744073709551616 := by
 have h1 := hb.getD k
 have h2 := hR.getD (o + k)
 have h3 : b.getD k 0 * x ≤ 4294967295 * 4294967295 := Nat.mul_le_mul (by omega) (by omega)
 unfold Jc
 omega
theorem AddT.next {R : List Nat} {o : Nat} {b : List Nat} {x k : Nat} {S : List Nat} {q : Nat} (h : AddT R o b x k S q) (hR : Ws R) (hb : Ws b) (hx : x < 4294967296) (hk : k < b.length) (ho : o + k < R.length) :
  S.getD (o + k) 0 = R.getD (o + k) 0 ∧ AddT R o b x (k + 1) (S.set (o + k) (Jc R o b x k q % 4294967296)) (Jc R o b x k q / 4294967296) := by
 obtain ⟨h1, h2, h3, h4, h5⟩ := h
 have hlt := (Om (o := o) (k := k) hR hb hx h5).2.2
 obtain ⟨t, ht⟩ : ∃ t, Jc R o b x k q = t := ⟨_, rfl⟩
 rw [ht] at hlt ⊢
 refine ⟨h3 _ (.inr (Nat.le_refl _)), by rw [List.length_set]; exact h1, h2.set (by omega), fun j hj => ?_, ?_, by omega⟩
 ·rw [Al (by omega), h3 j (by omega)]
 ·rw [Au _ o k (by rw [List.length_set]; omega), Au R o k ho, Bi b k hk, Bg (by omega)]
  rw [Dn (l := S.set (o + k) (t % 4294967296)) (m := S) o k (by rw [List.length_set]; omega) (by omega) (fun j _ hj => Al (by omega))]
  have e := Fh (4294967296 ^ k) t (val ((S.drop o).take k)) (val ((R.drop o).take k) + 4294967296 ^ k * R.getD (o + k) 0 + x * (val (b.take k) + 4294967296 ^ k * b.getD k 0)) (by
   rw [← ht]
   unfold Jc
   grind)
  rw [Nat.pow_succ]
  exact e
def Afn (g : Nat) (R : List Nat) (o : Nat) (b : List Nat) (x : Nat) (w : World) (e : Ending) (w' : World) : Prop :=
 ∃ S q, e = .returned (.int .u32 (q : Nat)) ∧ Row w' g S ∧ AddT R o b x b.length S q ∧ Below g w w'
theorem Nx (g o n c : Nat) (R : List Nat) (A : Option Addr) (m d : Nat) (b : List Nat) (x B : Nat) (w : World) (hR : Row w g R) (hRw : Ws R) (ho : o + n ≤ R.length) (hmn : m ≤ n) (hbl : b.length = m)
  (hB : RW w B A b) (hgB : B ≤ g) (hx : x < 4294967296) (hm : R.length ≤ 35184372088832) :
  Cp 245 #[.slice (some ⟨g, o, none⟩) n c, .slice A m d, .int .u32 x] w (Afn g R o b x w) := by
 rcases Nat.eq_zero_or_pos m with h0 | h0
 ·subst h0
  obtain rfl : b = [] := List.eq_nil_of_length_eq_zero hbl
  have HR := Lh hR
  have HW := Lh hRw
  clear hR hRw ho hmn hbl hB hgB hx hm
  go_enter Tryz.func245, Tryz.ntmps245
  go_wp2
  go_loop [12, 7] (fun i v => i = .int .i64 0 ∧ v = .int .u64 0) (fun _ _ => 0)
  case atStart => exact ⟨rfl, rfl⟩
  case round =>
   obtain ⟨rfl, rfl⟩ := hrel
   go_wp2
   go_ret
   exact ⟨R, 0, rfl, HR.out, AddT.start o [] x HW.out, Below.refl _ _⟩
 ·obtain ⟨a, p, rfl, hab, hc⟩ := hB.2 (by omega)
  have HBW := Lh hB.1
  have HRW := Lh hRw
  have HBL := Lh hbl
  have HC := Lh hc
  have HX := Lh hx
  have HR := Lh hR
  have hm1 : (m : Int) ≤ (n : Int) := by omega
  have hn1 : (n : Int) ≤ 35184372088832 := by omega
  have HO := Lh ho
  have hag : a < g := by omega
  have h0' : (0 : Int) ≤ (x : Int) := by omega
  clear hR hRw ho hmn hbl hB hx hm hc h0
  go_enter Tryz.func245, Tryz.ntmps245
  go_wp2
  go_loopw [12, 7] (fun i v wr => ∃ (k : Nat) (S : List Nat) (q : Nat), i = .int .i64 k ∧ v = .int .u64 (q : Nat) ∧ k ≤ m ∧ Hid (Row wr g S) ∧ Hid (AddT R o b x k S q) ∧ Below g w wr) (fun i _ _ => m - (intOf i).toNat)
  case atStart => exact ⟨0, R, 0, rfl, rfl, Nat.zero_le _, HR, Lh (AddT.start o b x HRW.out), Below.refl _ _⟩
  case round =>
   obtain ⟨k, S, q, rfl, rfl, hk, HS, HT, hbw⟩ := hrel
   by_cases hlt : k < m
   ·have hkb : k < b.length := by rw [HBL.out]; exact hlt
    have hok : o + k < R.length := by have := HO.out; omega
    obtain ⟨e1, hnext⟩ := HT.out.next HRW.out HBW.out HX.out hkb hok
    have hS := HS.out.cell (o + k) (by rw [HT.out.len]; exact hok)
    have hfz := HS.out.frozen (o + k)
    have hcl := HC.out k _ (Ba hkb)
    rw [← hbw.cell (p := ⟨a, p + k, none⟩) hag] at hcl
    obtain ⟨l1, l2, l3⟩ := Om (o := o) (k := k) (q := q) HRW.out HBW.out HX.out HT.out.low
    have hset := HS.out.set (o + k) (Jc R o b x k q % 4294967296)
    have HE := Lh (show Jc R o b x k q = q + (b.getD k 0 * x + R.getD (o + k) 0) from rfl)
    have u1 := HBW.out.getD k
    have r1 := HRW.out.getD (o + k)
    have q1 := HT.out.low
    rw [e1] at hS
    obtain ⟨t, ht⟩ : ∃ t, Jc R o b x k q = t := ⟨_, rfl⟩
    obtain ⟨u, hu⟩ : ∃ u, b.getD k 0 = u := ⟨_, rfl⟩
    obtain ⟨r, hr⟩ : ∃ r, R.getD (o + k) 0 = r := ⟨_, rfl⟩
    rw [ht, hu, hr] at HE
    rw [ht] at hnext hset l3
    rw [hu] at hcl l1 l2 u1
    rw [hr] at hS l2 r1
    have HNX := Lh hnext
    have k1 : IntKind.u64.wrap (u : Int) = (u : Int) := IntWalk.u64_in _ (by omega)
    have k2 : IntKind.u64.wrap (x : Int) = (x : Int) := IntWalk.u64_in _ (by have := HX.out; omega)
    have k3 : IntKind.u64.wrap (r : Int) = (r : Int) := IntWalk.u64_in _ (by omega)
    have k4 : IntKind.u64.wrap ((u : Int) * (x : Int)) = (u : Int) * (x : Int) := IntWalk.u64_in _ (by
     have : ((u * x : Nat) : Int) = (u : Int) * (x : Int) := Int.natCast_mul u x
     omega)
    have k5 : IntKind.u64.wrap ((u : Int) * (x : Int) + (r : Int)) = (u : Int) * (x : Int) + (r : Int) := IntWalk.u64_in _ (by
     have : ((u * x : Nat) : Int) = (u : Int) * (x : Int) := Int.natCast_mul u x
     omega)
    have k6 : IntKind.u64.wrap ((q : Int) + ((u : Int) * (x : Int) + (r : Int))) = (t : Int) := by
     have : ((u * x : Nat) : Int) = (u : Int) * (x : Int) := Int.natCast_mul u x
     have := HE.out
     rw [IntWalk.u64_in _ (by omega)]
     omega
    clear e1 hnext l1 l2 l3 u1 r1 q1 ht hu hr hkb hok
    rw [show ((t % 4294967296 : Nat) : Int) = (t : Int) % 4294967296 by omega] at hset
    have HSET := Lh hset
    clear hset
    go_wp2
    go_roundw
    case rel => exact ⟨k + 1, _, t / 4294967296, by go_num, by go_num, by omega, HSET, HNX, hbw.setCell (Nat.le_refl _) _⟩
    case measure => simp [intOf]; omega
   ·have HZ := Lh (show k = b.length by rw [HBL.out]; omega)
    have q1 := HT.out.low
    have k1 : IntKind.u32.wrap (q : Int) = (q : Int) := IntWalk.u32_in _ (by omega)
    have HT2 := Lh (HZ.out ▸ HT.out : AddT R o b x b.length S q)
    clear q1
    go_wp2
    go_ret
    exact ⟨S, q, rfl, HS.out, HT2.out, hbw⟩
structure Only (g : Nat) (w w' : World) : Prop where
 below : Below g w w'
 far : ∀ k, k ≠ g → w'.heap[k]? = w.heap[k]?
theorem Only.refl (g : Nat) (w : World) : Only g w w := ⟨Below.refl _ _, fun _ _ => rfl⟩
theorem Only.trans {g : Nat} {a b c : World} (h : Only g a b) (k : Only g b c) : Only g a c := ⟨h.below.trans k.below, fun i hi => (k.far i hi).trans (h.far i hi)⟩
theorem Only.setCell {g i : Nat} {a w : World} (h : Only g a w) (u : Value) : Only g a (w.setCell ⟨g, i, none⟩ u) :=
 ⟨h.below.setCell (Nat.le_refl _) u, fun k hk => (Below.heap_setCell w ⟨g, i, none⟩ u k hk).trans (h.far k hk)⟩
theorem Only.drewN {g : Nat} {a w : World} (h : Only g a w) (n : Nat) : Only g a (w.drewN n) := ⟨Ae h.below n, h.far⟩
theorem Row.only {w w' : World} {g k : Nat} {R : List Nat} (h : Row w k R) (hk : k ≠ g) (hb : Only g w w') : Row w' k R := (hb.far k hk).trans h
def Ac8 (g : Nat) (R : List Nat) (o : Nat) (b : List Nat) (x : Nat) (w : World) (e : Ending) (w' : World) : Prop :=
 ∃ S q, e = .returned (.int .u32 (q : Nat)) ∧ Row w' g S ∧ AddT R o b x b.length S q ∧ Only g w w'
theorem Lv (g o n c : Nat) (R : List Nat) (A : Option Addr) (m d : Nat) (b : List Nat) (x B : Nat) (w : World) (hR : Row w g R) (hRw : Ws R) (ho : o + n ≤ R.length) (hmn : m ≤ n) (hbl : b.length = m)
  (hB : RW w B A b) (hgB : B ≤ g) (hx : x < 4294967296) (hm : R.length ≤ 35184372088832) :
  Cp 245 #[.slice (some ⟨g, o, none⟩) n c, .slice A m d, .int .u32 x] w (Ac8 g R o b x w) := by
 rcases Nat.eq_zero_or_pos m with h0 | h0
 ·subst h0
  obtain rfl : b = [] := List.eq_nil_of_length_eq_zero hbl
  have HR := Lh hR
  have HW := Lh hRw
  clear hR hRw ho hmn hbl hB hgB hx hm
  go_enter Tryz.func245, Tryz.ntmps245
  go_wp2
  go_loop [12, 7] (fun i v => i = .int .i64 0 ∧ v = .int .u64 0) (fun _ _ => 0)
  case atStart => exact ⟨rfl, rfl⟩
  case round =>
   obtain ⟨rfl, rfl⟩ := hrel
   go_wp2
   go_ret
   exact ⟨R, 0, rfl, HR.out, AddT.start o [] x HW.out, Only.refl _ _⟩
 ·obtain ⟨a, p, rfl, hab, hc⟩ := hB.2 (by omega)
  have HBW := Lh hB.1
  have HRW := Lh hRw
  have HBL := Lh hbl
  have HC := Lh hc
  have HX := Lh hx
  have HR := Lh hR
  have hm1 : (m : Int) ≤ (n : Int) := by omega
  have hn1 : (n : Int) ≤ 35184372088832 := by omega
  have HO := Lh ho
  have hag : a < g := by omega
  have h0' : (0 : Int) ≤ (x : Int) := by omega
  clear hR hRw ho hmn hbl hB hx hm hc h0
  go_enter Tryz.func245, Tryz.ntmps245
  go_wp2
  go_loopw [12, 7] (fun i v wr => ∃ (k : Nat) (S : List Nat) (q : Nat), i = .int .i64 k ∧ v = .int .u64 (q : Nat) ∧ k ≤ m ∧ Hid (Row wr g S) ∧ Hid (AddT R o b x k S q) ∧ Only g w wr) (fun i _ _ => m - (intOf i).toNat)
  case atStart => exact ⟨0, R, 0, rfl, rfl, Nat.zero_le _, HR, Lh (AddT.start o b x HRW.out), Only.refl _ _⟩
  case round =>
   obtain ⟨k, S, q, rfl, rfl, hk, HS, HT, hbw⟩ := hrel
   by_cases hlt : k < m
   ·have hkb : k < b.length := by rw [HBL.out]; exact hlt
    have hok : o + k < R.length := by have := HO.out; omega
    obtain ⟨e1, hnext⟩ := HT.out.next HRW.out HBW.out HX.out hkb hok
    have hS := HS.out.cell (o + k) (by rw [HT.out.len]; exact hok)
    have hfz := HS.out.frozen (o + k)
    have hcl := HC.out k _ (Ba hkb)
    rw [← hbw.below.cell (p := ⟨a, p + k, none⟩) hag] at hcl
    obtain ⟨l1, l2, l3⟩ := Om (o := o) (k := k) (q := q) HRW.out HBW.out HX.out HT.out.low
    have hset := HS.out.set (o + k) (Jc R o b x k q % 4294967296)
    have HE := Lh (show Jc R o b x k q = q + (b.getD k 0 * x + R.getD (o + k) 0) from rfl)
    have u1 := HBW.out.getD k
    have r1 := HRW.out.getD (o + k)
    have q1 := HT.out.low
    rw [e1] at hS
    obtain ⟨t, ht⟩ : ∃ t, Jc R o b x k q = t := ⟨_, rfl⟩
    obtain ⟨u, hu⟩ : ∃ u, b.getD k 0 = u := ⟨_, rfl⟩
    obtain ⟨r, hr⟩ : ∃ r, R.getD (o + k) 0 = r := ⟨_, rfl⟩
    rw [ht, hu, hr] at HE
    rw [ht] at hnext hset l3
    rw [hu] at hcl l1 l2 u1
    rw [hr] at hS l2 r1
    have HNX := Lh hnext
    have k1 : IntKind.u64.wrap (u : Int) = (u : Int) := IntWalk.u64_in _ (by omega)
    have k2 : IntKind.u64.wrap (x : Int) = (x : Int) := IntWalk.u64_in _ (by have := HX.out; omega)
    have k3 : IntKind.u64.wrap (r : Int) = (r : Int) := IntWalk.u64_in _ (by omega)
    have k4 : IntKind.u64.wrap ((u : Int) * (x : Int)) = (u : Int) * (x : Int) := IntWalk.u64_in _ (by
     have : ((u * x : Nat) : Int) = (u : Int) * (x : Int) := Int.natCast_mul u x
     omega)
    have k5 : IntKind.u64.wrap ((u : Int) * (x : Int) + (r : Int)) = (u : Int) * (x : Int) + (r : Int) := IntWalk.u64_in _ (by
     have : ((u * x : Nat) : Int) = (u : Int) * (x : Int) := Int.natCast_mul u x
     omega)
    have k6 : IntKind.u64.wrap ((q : Int) + ((u : Int) * (x : Int) + (r : Int))) = (t : Int) := by
     have : ((u * x : Nat) : Int) = (u : Int) * (x : Int) := Int.natCast_mul u x
     have := HE.out
     rw [IntWalk.u64_in _ (by omega)]
     omega
    clear e1 hnext l1 l2 l3 u1 r1 q1 ht hu hr hkb hok
    rw [show ((t % 4294967296 : Nat) : Int) = (t : Int) % 4294967296 by omega] at hset
    have HSET := Lh hset
    clear hset
    go_wp2
    go_roundw
    case rel => exact ⟨k + 1, _, t / 4294967296, by go_num, by go_num, by omega, HSET, HNX, hbw.setCell _⟩
    case measure => simp [intOf]; omega
   ·have HZ := Lh (show k = b.length by rw [HBL.out]; omega)
    have q1 := HT.out.low
    have k1 : IntKind.u32.wrap (q : Int) = (q : Int) := IntWalk.u32_in _ (by omega)
    have HT2 := Lh (HZ.out ▸ HT.out : AddT R o b x b.length S q)
    clear q1
    go_wp2
    go_ret
    exact ⟨S, q, rfl, HS.out, HT2.out, hbw⟩
def Ah (v : Nat) : Bool := decide (1024 < (wds v).length)
def NatPost (v : Nat) (w : World) (e : Ending) (w' : World) : Prop :=
 ∃ A n c k, e = .returned (.tuple #[.slice A n c, .int .i64 (k : Nat)]) ∧ (if Ah v = true then A = none ∧ n = 0 ∧ c = 0 ∧ k = 3 else n = (wds v).length ∧ n ≤ c ∧ k = 0 ∧ RW w' w'.heap.size A (wds v)) ∧ Below w.heap.size w w'
def Ck (k : Nat) (w : World) (e : Ending) (w' : World) : Prop := e = .returned (.tuple #[.slice none 0 0, .int .i64 (k : Nat)]) ∧ Below w.heap.size w w'
theorem NatPost.long {v : Nat} {w w' : World} (h : Ah v = true) (hb : Below w.heap.size w w') : NatPost v w (.returned (.tuple #[.slice none 0 0, .int .i64 3])) w' :=
 ⟨none, 0, 0, 3, rfl, by rw [if_pos h]; exact ⟨rfl, rfl, rfl, rfl⟩, hb⟩
theorem NatPost.ok {v : Nat} {w w' : World} {A : Option Addr} {n c : Nat} (h : Ah v = false) (hn : n = (wds v).length) (hc : n ≤ c) (hr : RW w' w'.heap.size A (wds v)) (hb : Below w.heap.size w w') : NatPost v w (.returned (.tuple #[.slice A n c, .int .i64 0])) w' :=
 ⟨A, n, c, 0, rfl, by rw [if_neg (by rw [h]; simp)]; exact ⟨hn, hc, rfl, hr⟩, hb⟩
theorem NatPost.from_ {v : Nat} {w w1 w' : World} {e : Ending} (hb : Below w.heap.size w w1) (h : NatPost v w1 e w') : NatPost v w e w' := by
 obtain ⟨A, n, c, k, h1, h2, h3⟩ := h
 exact ⟨A, n, c, k, h1, h2, Aa hb h3⟩
theorem Jt {l : List Nat} (h : Ws l) : Ah (val l) = decide (1024 < (nrm l).length) := by unfold Ah; rw [Cb h]
abbrev Ea (w : World) (v u : Value) : World := w.alloc (.cells #[v, u] 121)
abbrev lone (w : World) (v : Value) : World := w.alloc (.cells #[v] 121)
theorem T7 (w : World) (v u : Value) : (Ea w v u).cell? ⟨w.heap.size, 0, none⟩ = some v := by
 rw [cell_of_row _ _ _ _ _ _ (heap_alloc_new w (.cells #[v, u] 121))]; rfl
theorem Uh (w : World) (v u : Value) : (Ea w v u).cell? ⟨w.heap.size, 1, none⟩ = some u := by
 rw [cell_of_row _ _ _ _ _ _ (heap_alloc_new w (.cells #[v, u] 121))]; rfl
theorem Va (w : World) (v : Value) : (lone w v).cell? ⟨w.heap.size, 0, none⟩ = some v := by
 rw [cell_of_row _ _ _ _ _ _ (heap_alloc_new w (.cells #[v] 121))]; rfl
theorem Bp (A C : Option Addr) (n c m d : Nat) (l k : List Nat) (w : World) (hn : l.length = n) (hc : n ≤ c) (hm : n ≤ 35184372088832) (h : RW w w.heap.size A l)
    (gn : k.length = m) (gc : m ≤ d) (gm : m ≤ 35184372088832) (g : RW w w.heap.size C k) :
    Cp 174 #[.slice (some ⟨w.heap.size, 0, none⟩) 2 2] (Ea w (.slice A n c) (.slice C m d)) fun e w' => e = .returned (.bool (Ah (val l) || Ah (val k))) ∧ Ea w (.slice A n c) (.slice C m d) = w' := by
  have hp : Below w.heap.size w (Ea w (.slice A n c) (.slice C m d)) := (Below.refl _ _).alloc (Nat.le_refl _) _
  have c1 := Ak A n c l w.heap.size _ hn hc hm (h.below hp)
  have c2 := Ak C m d k w.heap.size _ gn gc gm (g.below hp)
  have d1 := T7 w (.slice A n c) (.slice C m d)
  have d2 := Uh w (.slice A n c) (.slice C m d)
  have e1 := Jt h.1
  have e2 := Jt g.1
  have hl1 := Bq l
  have hl2 := Bq k
  obtain ⟨N, hN⟩ : ∃ N, (nrm l).length = N := ⟨_, rfl⟩
  obtain ⟨M, hM⟩ : ∃ M, (nrm k).length = M := ⟨_, rfl⟩
  rw [hN] at c1 e1
  rw [hM] at c2 e2
  rw [e1, e2]
  have hN1 : (N : Int) ≤ 35184372088832 := by omega
  have hM1 : (M : Int) ≤ 35184372088832 := by omega
  clear hp h g hn hc hm gn gc gm e1 e2 hl1 hl2 hN hM
  generalize Ea w (.slice A n c) (.slice C m d) = W at c1 c2 d1 d2 ⊢
  by_cases hA : 1024 < N
  · have hA' : (1024 : Int) < (N : Int) := by omega
    rw [show decide (1024 < N) = true from decide_eq_true hA, Bool.true_or]
    clear hA
    go_enter Tryz.func174, Tryz.ntmps174
    go_wp2
    go_loop [7] (fun i => i = .int .i64 0) (fun _ => 0)
    case atStart => exact rfl
    case round =>
      obtain rfl := hrel
      go_wp2_with fail
      refine c1.mono ?_
      rintro e w' ⟨rfl, rfl⟩
      go_wp2
      go_ret
      exact ⟨rfl, rfl⟩
  · have hA' : ¬ (1024 : Int) < (N : Int) := by omega
    rw [show decide (1024 < N) = false from decide_eq_false hA, Bool.false_or]
    clear hA
    have rel2 : decide (1024 < M) = true ∧ (1024 : Int) < (M : Int) ∨ decide (1024 < M) = false ∧ ¬ (1024 : Int) < (M : Int) := by
      by_cases hB : 1024 < M
      · exact .inl ⟨decide_eq_true hB, by omega⟩
      · exact .inr ⟨decide_eq_false hB, by omega⟩
    rcases rel2 with ⟨hb, hB⟩ | ⟨hb, hB⟩
    all_goals
      rw [hb]
      clear hb
      go_enter Tryz.func174, Tryz.ntmps174
      go_wp2
      go_loop [7] (fun i => i = .int .i64 0 ∨ i = .int .i64 1 ∨ (i = .int .i64 2 ∧ ¬ (1024 : Int) < (M : Int))) (fun i => 2 - (intOf i).toNat)
      case atStart => exact .inl rfl
      case round =>
        rcases hrel with rfl | rfl | ⟨rfl, hB2⟩
        · go_wp2_with fail
          refine c1.mono ?_
          rintro e w' ⟨rfl, rfl⟩
          go_wp2
          go_round
          case rel => exact .inr (.inl rfl)
          case measure => simp [intOf]
        · go_wp2_with fail
          refine c2.mono ?_
          rintro e w' ⟨rfl, rfl⟩
          go_wp2
          first
            | (go_ret; exact ⟨rfl, rfl⟩)
            | (go_round
               case rel => exact .inr (.inr ⟨rfl, by omega⟩)
               case measure => simp [intOf])
        · first
            | (exact absurd hB hB2)
            | (go_wp2
               go_ret
               exact ⟨rfl, rfl⟩)
theorem Cr (A : Option Addr) (n c : Nat) (l : List Nat) (w : World) (hn : l.length = n) (hc : n ≤ c) (hm : n ≤ 35184372088832) (h : RW w w.heap.size A l) :
  Cp 174 #[.slice (some ⟨w.heap.size, 0, none⟩) 1 1] (lone w (.slice A n c)) fun e w' => e = .returned (.bool (Ah (val l))) ∧ lone w (.slice A n c) = w' := by
 have hp : Below w.heap.size w (lone w (.slice A n c)) := (Below.refl _ _).alloc (Nat.le_refl _) _
 have c1 := Ak A n c l w.heap.size _ hn hc hm (h.below hp)
 have d1 := Va w (.slice A n c)
 have e1 := Jt h.1
 have hl1 := Bq l
 obtain ⟨N, hN⟩ : ∃ N, (nrm l).length = N := ⟨_, rfl⟩
 rw [hN] at c1 e1
 rw [e1]
 have hN1 : (N : Int) ≤ 35184372088832 := by omega
 clear hp h hn hc hm e1 hl1 hN
 generalize lone w (.slice A n c) = W at c1 d1 ⊢
 by_cases hA : 1024 < N
 ·have hA' : (1024 : Int) < (N : Int) := by omega
  rw [show decide (1024 < N) = true from decide_eq_true hA]
  clear hA
  go_enter Tryz.func174, Tryz.ntmps174
  go_wp2
  go_loop [7] (fun i => i = .int .i64 0) (fun _ => 0)
  case atStart => exact rfl
  case round =>
   obtain rfl := hrel
   go_wp2_with fail
   refine c1.mono ?_
   rintro e w' ⟨rfl, rfl⟩
   go_wp2
   go_ret
   exact ⟨rfl, rfl⟩
 ·have hA' : ¬ (1024 : Int) < (N : Int) := by omega
  rw [show decide (1024 < N) = false from decide_eq_false hA]
  clear hA
  go_enter Tryz.func174, Tryz.ntmps174
  go_wp2
  go_loop [7] (fun i => i = .int .i64 0 ∨ i = .int .i64 1) (fun i => 1 - (intOf i).toNat)
  case atStart => exact .inl rfl
  case round =>
   rcases hrel with rfl | rfl
   ·go_wp2_with fail
    refine c1.mono ?_
    rintro e w' ⟨rfl, rfl⟩
    go_wp2
    go_round
    case rel => exact .inr rfl
    case measure => simp [intOf]
   ·go_wp2
    go_ret
    exact ⟨rfl, rfl⟩
theorem Et (A : Option Addr) (n c : Nat) (l : List Nat) (w : World) (hn : l.length = n) (hc : n ≤ c) (hm : n ≤ 35184372088832) (h : RW w w.heap.size A l) :
  Cp 175 #[.slice A n c] w (NatPost (val l) w) := by
 have c1 := Cr A n c l w hn hc hm h
 have hp : Below w.heap.size w (lone w (.slice A n c)) := (Below.refl _ _).alloc (Nat.le_refl _) _
 have c2 := Ak A n c l w.heap.size _ hn hc hm (h.below hp)
 cases hl : Ah (val l)
 ·rw [hl] at c1
  have HL := Lh hl
  rw [Cb h.1] at c2
  have HR := Lh (show RW (lone w (.slice A n c)) (lone w (.slice A n c)).heap.size A (wds (val l)) by rw [← Cb h.1]; exact (h.step hp).nrm)
  have HP := Lh hp
  clear hn hc hm h hl hp
  go_enter Tryz.func175, Tryz.ntmps175
  go_wp2_with fail
  refine c1.mono ?_
  rintro e w1 ⟨rfl, rfl⟩
  go_wp2_with fail
  refine c2.mono ?_
  rintro e w1 ⟨rfl, rfl⟩
  go_wp2
  go_ret2
  exact NatPost.ok HL.out rfl (Nat.le_refl _) HR.out HP.out
 ·rw [hl] at c1
  have HL := Lh hl
  have HP := Lh hp
  clear hn hc hm h hl hp c2
  go_enter Tryz.func175, Tryz.ntmps175
  go_wp2_with fail
  refine c1.mono ?_
  rintro e w1 ⟨rfl, rfl⟩
  go_wp2
  go_ret2
  exact NatPost.long HL.out HP.out
structure MulT (a b : List Nat) (i : Nat) (P : List Nat) : Prop where
 len : P.length = a.length + b.length
 ws : Ws P
 zeros : ∀ j, i + b.length ≤ j → P.getD j 0 = 0
 sum : val (P.take (i + b.length)) = val (a.take i) * val b
theorem MulT.start (a b : List Nat) : MulT a b 0 (List.replicate (a.length + b.length) 0) :=
 ⟨List.length_replicate, Ws.zeros _, fun j _ => Uv _ j, by
  rw [List.take_replicate, Nd]; simp [val]⟩
theorem MulT.next {a b : List Nat} {i : Nat} {P S : List Nat} {q : Nat} (h : MulT a b i P) (hi : i < a.length) (hS : AddT P i b (a.getD i 0) b.length S q) : MulT a b (i + 1) (S.set (i + b.length) q) := by
 obtain ⟨h1, h2, h3, h4⟩ := h
 obtain ⟨g1, g2, g3, g4, g5⟩ := hS
 refine ⟨by rw [List.length_set]; omega, g2.set g5, fun j hj => ?_, ?_⟩
 ·rw [Al (by omega), g3 j (by omega), h3 j (by omega)]
 ·have hb : b.take b.length = b := List.take_of_length_le (Nat.le_refl _)
  rw [hb] at g4
  have e1 : (S.set (i + b.length) q).take (i + 1 + b.length) = (S.set (i + b.length) q).take (i + b.length + 1) := by congr 1; omega
  rw [e1, Bi _ _ (by rw [List.length_set]; omega), Bg (by omega), Bi a i hi]
  rw [Co (l := S.set (i + b.length) q) (m := S) (i + b.length) (by rw [List.length_set]; omega) (by omega) (fun j hj => Al (by omega))]
  rw [F2 S i b.length (by omega)]
  rw [Co (l := S) (m := P) i (by omega) (by omega) (fun j hj => g3 j (by omega))]
  rw [F2 P i b.length (by omega)] at h4
  rw [Nat.pow_add]
  have e2 : val (P.take i) + 4294967296 ^ i * val ((S.drop i).take b.length) + 4294967296 ^ i * 4294967296 ^ b.length * q = val (P.take i) + 4294967296 ^ i * (val ((S.drop i).take b.length) + 4294967296 ^ b.length * q) := by grind
  rw [e2, g4]
  grind
theorem MulT.whole {a b : List Nat} {P : List Nat} (h : MulT a b a.length P) : val P = val a * val b := by
 have := h.sum
 rw [List.take_of_length_le (by rw [h.len]; exact Nat.le_refl _), List.take_of_length_le (Nat.le_refl _)] at this
 exact this
def Ju (v u : Nat) (w : World) (e : Ending) (w' : World) : Prop := if (Ah v || Ah u) = true then Ck 3 w e w' else NatPost (v * u) w e w'
theorem Da {l : List Nat} (h : Ws l) (hl : Ah (val l) = false) : (nrm l).length ≤ 1024 := by
 rw [Jt h] at hl
 have := of_decide_eq_false hl
 omega
theorem Ty (A C : Option Addr) (n c m d : Nat) (l k : List Nat) (w : World) (hn : l.length = n) (hc : n ≤ c) (hm : n ≤ 35184372088832) (h : RW w w.heap.size A l)
  (gn : k.length = m) (gc : m ≤ d) (gm : m ≤ 35184372088832) (g : RW w w.heap.size C k) (hl : (Ah (val l) || Ah (val k)) = false) :
  Cp 227 #[.slice A n c, .slice C m d] w (NatPost (val l * val k) w) := by
 have c1 := Bp A C n c m d l k w hn hc hm h gn gc gm g
 have hp : Below w.heap.size w (Ea w (.slice A n c) (.slice C m d)) := (Below.refl _ _).alloc (Nat.le_refl _) _
 rw [hl] at c1
 obtain ⟨hl1, hl2⟩ : Ah (val l) = false ∧ Ah (val k) = false := by simpa using hl
 have c2 := Ak A n c l w.heap.size _ hn hc hm (h.below hp)
 have c3 := Ak C m d k w.heap.size _ gn gc gm (g.below hp)
 have n1 := Da h.1 hl1
 have n2 := Da g.1 hl2
 obtain ⟨a, ha⟩ : ∃ a, nrm l = a := ⟨_, rfl⟩
 obtain ⟨b, hb⟩ : ∃ b, nrm k = b := ⟨_, rfl⟩
 have hA := h.nrm
 have hB := g.nrm
 rw [ha] at n1 c2 hA
 rw [hb] at n2 c3 hB
 rw [← Ar l, ← Ar k, ha, hb]
 obtain ⟨N, hN⟩ : ∃ N, a.length = N := ⟨_, rfl⟩
 obtain ⟨M, hM⟩ : ∃ M, b.length = M := ⟨_, rfl⟩
 rw [hN] at n1 c2
 rw [hM] at n2 c3
 clear h g hn hc hm gn gc gm hl hl1 hl2 ha hb
 obtain ⟨W, hW⟩ : ∃ W, Ea w (.slice A n c) (.slice C m d) = W := ⟨_, rfl⟩
 rw [hW] at c1 c2 c3 hp
 have HW := Lh hW
 have hmk := run_make_row' (P := Tryz.prog) 121 129 (.int .u32 0) 4 Tryz.underlying121 F6 rfl .i64 .i64 (N + M) (by omega) (by omega) W
 rw [show ((N + M : Nat) : Int) = (N : Int) + (M : Int) by omega] at hmk
 have hrow := Row.made W (N + M)
 have hN1 : (N : Int) ≤ 1024 := by omega
 have hM1 : (M : Int) ≤ 1024 := by omega
 have HN := Lh hN
 have HM := Lh hM
 have HA := Lh hA
 have HB := Lh hB
 have hgW := hp.size
 have HP := Lh hp
 have HROW := Lh hrow
 have hbl0 : Below w.heap.size w (W.alloc (.cells (madeCells #[.int .u32 0] (N + M)) 129)) := hp.alloc hp.size _
 have HBL := Lh hbl0
 clear hA hB hN hM hp hrow n1 n2 hbl0 hW
 go_enter Tryz.func227, Tryz.ntmps227
 go_wp2_with fail
 rw [show w.alloc (.cells #[.slice A n c, .slice C m d] 121) = W from HW.out]
 refine c1.mono ?_
 rintro e w1 ⟨rfl, rfl⟩
 go_wp2_with fail
 refine c2.mono ?_
 rintro e w1 ⟨rfl, rfl⟩
 go_wp2_with fail
 refine c3.mono ?_
 rintro e w1 ⟨rfl, rfl⟩
 clear c1 c2 c3
 go_wp2
 go_loopw [25] (fun i wr => ∃ (q : Nat) (P : List Nat), i = .int .i64 q ∧ q ≤ N ∧ Hid (Row wr W.heap.size P) ∧ Hid (MulT a b q P) ∧ Below w.heap.size w wr) (fun i _ => N - (intOf i).toNat)
 case atStart => exact ⟨0, _, rfl, Nat.zero_le _, HROW, Lh (by have := MulT.start a b; rw [HN.out, HM.out] at this; exact this), HBL.out⟩
 case round =>
  obtain ⟨q, P, rfl, hq, HR, HT, hbw⟩ := hrel
  by_cases hlt : q < N
  ·have hqa : q < a.length := by rw [HN.out]; exact hlt
   obtain ⟨ab, ao, rfl, hab, hca⟩ := HA.out.2 (by omega)
   have hcl := hca q _ (Ba hqa)
   rw [← hbw.cell (p := ⟨ab, ao + q, none⟩) hab] at hcl
   have hx := HA.out.1.getD q
   have hPl : P.length = N + M := by rw [HT.out.len, HN.out, HM.out]
   obtain ⟨x, hxe⟩ : ∃ x, a.getD q 0 = x := ⟨_, rfl⟩
   rw [hxe] at hcl hx
   have C1 := Lh (Nx W.heap.size q (N + M - q) (N + M - q) P C M M b x w.heap.size wr HR.out HT.out.ws (by omega) (by omega) HM.out (HB.out.below hbw) hgW hx (by omega))
   have HX := Lh hxe
   have HPL := Lh hPl
   have hq1 : (q : Int) < (N : Int) := by omega
   have hq2 : ((N + M : Nat) == q) = false := by simp; omega
   have HNX := Lh (fun S r (h : AddT P q b x b.length S r) => HT.out.next hqa (by rw [hxe]; exact h))
   clear hqa hab hca hx hPl hxe
   go_wp2_with fail
   refine C1.out.mono ?_
   rintro e w2 ⟨S, r, rfl, hrow2, hadd, hb2⟩
   have hSl : S.length = N + M := by rw [hadd.len]; exact HPL.out
   have hcell2 := hrow2.cell (q + M) (by omega)
   have hfz2 := hrow2.frozen (q + M)
   have HSET := Lh (hrow2.set (q + M) r)
   have HMT := Lh (show MulT a b (q + 1) (S.set (q + M) r) by have := HNX.out S r hadd; rw [HM.out] at this; exact this)
   have hbw2 : Below w.heap.size w w2 := hbw.trans (hb2.mono hgW)
   clear hrow2 hadd hSl C1
   go_wp2
   go_roundw
   case rel => exact ⟨q + 1, _, by go_num, by omega, HSET, HMT, hbw2.setCell hgW _⟩
   case measure => simp [intOf]; omega
  ·have hqN : q = N := by omega
   have HMT := Lh (show MulT a b a.length P by rw [HN.out, ← hqN]; exact HT.out)
   have hPl : P.length = N + M := by rw [HT.out.len, HN.out, HM.out]
   have hlt2 := HR.out.lt
   have C1 := Lh (Et (some ⟨W.heap.size, 0, none⟩) (N + M) (N + M) P wr hPl (Nat.le_refl _) (by omega) ((HR.out.rw0 HT.out.ws).more hlt2))
   have HV := Lh HMT.out.whole
   clear hPl hqN hlt2
   go_wp2_with fail
   refine C1.out.mono ?_
   rintro e w2 h
   have h2 := NatPost.from_ hbw h
   rw [HV.out] at h2
   obtain ⟨A2, n2, c2, k2, rfl, h3, h4⟩ := h2
   have H3 := Lh h3
   have H4 := Lh h4
   clear h h3 h4 C1
   go_wp2
   go_ret2
   exact ⟨A2, n2, c2, k2, rfl, H3.out, H4.out⟩
theorem Ac1 (A C : Option Addr) (n c m d : Nat) (l k : List Nat) (w : World) (hn : l.length = n) (hc : n ≤ c) (hm : n ≤ 35184372088832) (h : RW w w.heap.size A l)
  (gn : k.length = m) (gc : m ≤ d) (gm : m ≤ 35184372088832) (g : RW w w.heap.size C k) (hl : (Ah (val l) || Ah (val k)) = true) :
  Cp 227 #[.slice A n c, .slice C m d] w (Ck 3 w) := by
 have c1 := Bp A C n c m d l k w hn hc hm h gn gc gm g
 have hp : Below w.heap.size w (Ea w (.slice A n c) (.slice C m d)) := (Below.refl _ _).alloc (Nat.le_refl _) _
 rw [hl] at c1
 have HP := Lh hp
 clear h g hn hc hm gn gc gm hl hp
 go_enter Tryz.func227, Tryz.ntmps227
 go_wp2_with fail
 refine c1.mono ?_
 rintro e w1 ⟨rfl, rfl⟩
 go_wp2
 go_ret2
 exact ⟨rfl, HP.out⟩
theorem Adz (A C : Option Addr) (n c m d : Nat) (l k : List Nat) (w : World) (hn : l.length = n) (hc : n ≤ c) (hm : n ≤ 35184372088832) (h : RW w w.heap.size A l)
  (gn : k.length = m) (gc : m ≤ d) (gm : m ≤ 35184372088832) (g : RW w w.heap.size C k) :
  Cp 227 #[.slice A n c, .slice C m d] w (Ju (val l) (val k) w) := by
 cases hl : (Ah (val l) || Ah (val k))
 ·exact (Ty A C n c m d l k w hn hc hm h gn gc gm g hl).mono (fun e w' x => by unfold Ju; rw [if_neg (by rw [hl]; simp)]; exact x)
 ·exact (Ac1 A C n c m d l k w hn hc hm h gn gc gm g hl).mono (fun e w' x => by unfold Ju; rw [if_pos hl]; exact x)
theorem Dv {v : Nat} (h : v < 4294967296) : Ah v = false := by
 unfold Ah
 have := Cf (n := v) (k := 1) (by simpa using h)
 exact decide_eq_false (by omega)
theorem NatPost.get {v : Nat} {w w' : World} {e : Ending} (h : NatPost v w e w') (hl : Ah v = false) : ∃ A c, e = .returned (.tuple #[.slice A (wds v).length c, .int .i64 0]) ∧ ((wds v).length ≤ c ∧ RW w' w'.heap.size A (wds v)) ∧ Below w.heap.size w w' := by
 obtain ⟨A, n, c, k, h1, h2, h3⟩ := h
 rw [if_neg (by rw [hl]; simp)] at h2
 obtain ⟨rfl, h4, rfl, h5⟩ := h2
 exact ⟨A, c, h1, ⟨h4, h5⟩, h3⟩
open Go.ChangeShapes Go.WideShapes Go.ChangeAt Go.RowKit
theorem own : ownKnob Tryz.prog.godebug = none := by kernel_rfl
def Ab (l : List Nat) : ByteArray := ⟨(l.map UInt8.ofNat).toArray⟩
def bl (s : ByteArray) : List Nat := s.data.toList.map UInt8.toNat
theorem Aj {l : List Nat} (h : ∀ u ∈ l, u < 256) : bl (Ab l) = l := by
 unfold bl Ab
 simp only [List.map_map]
 conv => rhs; rw [← List.map_id l]
 refine List.map_congr_left (fun u hu => ?_)
 have := h u hu
 simp
 omega
theorem Af8 (s : ByteArray) : (bl s).length = s.size := by unfold bl; rw [List.length_map]; rfl
theorem Nw {s t : ByteArray} (h : bl s = bl t) : s = t := by
 apply ByteArray.ext
 apply Array.toList_inj.1
 unfold bl at h
 exact (List.map_inj_right (fun a b hab => UInt8.toNat_inj.1 hab)).1 h
theorem Tt (s : ByteArray) (k : Nat) (h : k < s.size) : (bl s)[k]? = some (s[k]'h).toNat := by
 unfold bl
 rw [List.getElem?_map]
 have : s.data.toList[k]? = some (s[k]'h) := by rw [Array.getElem?_toList, Array.getElem?_eq_getElem (by exact h)]; rfl
 rw [this]; rfl
theorem Vf (s : ByteArray) (k : Nat) : bl (s.extract k s.size) = (bl s).drop k := by
 unfold bl
 rw [← List.map_drop]
 congr 1
 simp only [ByteArray.data_extract, Array.toList_extract, List.extract]
 exact List.take_of_length_le (by simp)
theorem Cu (A : Option Addr) (n c i : Nat) (l : List Nat) (B : Nat) (w : World) (hn : l.length = n) (hm : n ≤ 35184372088832) (h : RW w B A l) :
  Cq 178 #[.slice A n c, .int .i64 i] (.int .u32 (l.getD i 0 : Nat)) w := by
 by_cases hi : i < n
 ·obtain ⟨b, off, rfl, _, hc⟩ := h.2 (by omega)
  have hcell := hc i _ (Ba (by omega))
  obtain ⟨u, hu⟩ : ∃ u, l.getD i 0 = u := ⟨_, rfl⟩
  rw [hu] at hcell ⊢
  have h0 : decide ((i : Int) < 0) = false := by simp
  have h1 : decide (n ≤ i) = false := by simp; omega
  have h3 : (i : Int) < (n : Int) := by omega
  have h2 : (n : Int) ≤ 35184372088832 := by omega
  clear hn hm h hc hu hi
  go_enter Tryz.func178, Tryz.ntmps178
  go_wp2
  go_ret
  exact ⟨rfl, rfl⟩
 ·have e : l.getD i 0 = 0 := Ic (by omega)
  rw [e]
  have h0 : decide ((i : Int) < 0) = false := by simp
  have h1 : (n : Int) ≤ (i : Int) := by omega
  clear hn hm h e hi
  go_enter Tryz.func178, Tryz.ntmps178
  go_wp2
  go_ret
  exact ⟨rfl, rfl⟩
theorem Aa2 (A : Option Addr) (n c : Nat) (w : World) :
  Cq 178 #[.slice A n c, .int .i64 (-1)] (.int .u32 0) w := by
 go_enter Tryz.func178, Tryz.ntmps178
 go_wp2
 go_ret
 exact ⟨rfl, rfl⟩
theorem OwnW.snoc {B : Nat} {L : List Nat} {u : Nat} {v : Value} {w : World} (h : w.ownsRow B 129 1 v (L.length + 1) (L.map (fun u => Value.int .u32 (u : Nat)) ++ [Value.int .u32 (u : Nat)])) : OwnW B (L ++ [u]) v w := by
 unfold OwnW
 rw [List.length_append, List.map_append]
 exact h
theorem J9 (c : Nat) (w : World) (hc : c < 256) :
  Cq 217 #[.int .u8 c] (.int .i64 (dgt c : Nat)) w := by
 have k0 : IntKind.u8.wrap ((c : Int) - 48) = (c : Int) - 48 ∨ ¬ (48 ≤ c) := by
  by_cases h : 48 ≤ c
  ·exact .inl (by rw [IntKind.wrap_u8]; omega)
  ·exact .inr h
 have k1 : IntKind.u8.wrap ((c : Int) - 97) = (c : Int) - 97 ∨ ¬ (97 ≤ c) := by
  by_cases h : 97 ≤ c
  ·exact .inl (by rw [IntKind.wrap_u8]; omega)
  ·exact .inr h
 have k2 : IntKind.u8.wrap ((c : Int) - 65) = (c : Int) - 65 ∨ ¬ (65 ≤ c) := by
  by_cases h : 65 ≤ c
  ·exact .inl (by rw [IntKind.wrap_u8]; omega)
  ·exact .inr h
 unfold dgt
 by_cases h1 : 48 ≤ c ∧ c ≤ 57
 ·rw [if_pos h1]
  have a1 : (48 : Int) ≤ (c : Int) := by omega
  have a2 : (c : Int) ≤ 57 := by omega
  have e := k0.resolve_right (fun h => h h1.1)
  have e2 : IntKind.i64.wrap ((c : Int) - 48) = ((c - 48 : Nat) : Int) := by rw [IntWalk.i64_in _ (by omega)]; omega
  clear h1 k0 k1 k2 hc
  go_enter Tryz.func217, Tryz.ntmps217
  go_wp2
  go_ret
  exact ⟨by first | rfl | (rw [e2]), rfl⟩
 ·rw [if_neg h1]
  by_cases h2 : 97 ≤ c ∧ c ≤ 122
  ·rw [if_pos h2]
   have a1 : (48 : Int) ≤ (c : Int) := by omega
   have a2 : ¬ (c : Int) ≤ 57 := by omega
   have a3 : (97 : Int) ≤ (c : Int) := by omega
   have a4 : (c : Int) ≤ 122 := by omega
   have e := k1.resolve_right (fun h => h h2.1)
   have e2 : IntKind.i64.wrap ((c : Int) - 97) = (c : Int) - 97 := IntWalk.i64_in _ (by omega)
   have e3 : IntKind.i64.wrap ((c : Int) - 97 + 10) = ((c - 97 + 10 : Nat) : Int) := by rw [IntWalk.i64_in _ (by omega)]; omega
   clear h1 h2 k0 k1 k2 hc
   go_enter Tryz.func217, Tryz.ntmps217
   go_wp2
   go_ret
   exact ⟨by first | rfl | (rw [e3]), rfl⟩
  ·rw [if_neg h2]
   by_cases h3 : 65 ≤ c ∧ c ≤ 90
   ·rw [if_pos h3]
    have a1 : (48 : Int) ≤ (c : Int) := by omega
    have a2 : ¬ (c : Int) ≤ 57 := by omega
    have a3 : ¬ (97 : Int) ≤ (c : Int) := by omega
    have a5 : (65 : Int) ≤ (c : Int) := by omega
    have a6 : (c : Int) ≤ 90 := by omega
    have e := k2.resolve_right (fun h => h h3.1)
    have e2 : IntKind.i64.wrap ((c : Int) - 65) = (c : Int) - 65 := IntWalk.i64_in _ (by omega)
    have e3 : IntKind.i64.wrap ((c : Int) - 65 + 10) = ((c - 65 + 10 : Nat) : Int) := by rw [IntWalk.i64_in _ (by omega)]; omega
    clear h1 h2 h3 k0 k1 k2 hc
    go_enter Tryz.func217, Tryz.ntmps217
    go_wp2
    go_ret
    exact ⟨by first | rfl | (rw [e3]), rfl⟩
   ·rw [if_neg h3]
    clear k0 k1 k2
    have hcc : ((48 : Int) ≤ (c : Int) ∧ ¬ (c : Int) ≤ 57) ∨ ¬ (48 : Int) ≤ (c : Int) := by omega
    have hcd : ((97 : Int) ≤ (c : Int) ∧ ¬ (c : Int) ≤ 122) ∨ ¬ (97 : Int) ≤ (c : Int) := by omega
    have hce : ((65 : Int) ≤ (c : Int) ∧ ¬ (c : Int) ≤ 90) ∨ ¬ (65 : Int) ≤ (c : Int) := by omega
    clear h1 h2 h3 hc
    rcases hcc with ⟨a1, a2⟩ | a1 <;> rcases hcd with ⟨a3, a4⟩ | a3 <;> rcases hce with ⟨a5, a6⟩ | a5
    all_goals
     go_enter Tryz.func217, Tryz.ntmps217
     go_wp2
     go_ret
     exact ⟨rfl, rfl⟩
theorem Yx (r : Nat) (w : World) (h2 : 2 ≤ r) (h36 : r ≤ 36) :
  Cp 171 #[.int .i64 r] w fun e w' => (∃ c p : Nat, e = .returned (.tuple #[.int .i64 (c : Nat), .int .u32 (p : Nat)]) ∧ p = r ^ c ∧ 1 ≤ c ∧ c ≤ 32 ∧ p < 4294967296) ∧ w = w' := by
 have k0 : IntKind.u64.wrap (r : Int) = (r : Int) := IntWalk.u64_in _ (by omega)
 have H2 := Lh h2
 have H36 := Lh h36
 clear h2 h36
 go_enter Tryz.func171, Tryz.ntmps171
 go_wp2
 go_loopw [4, 5] (fun cv pw wr => ∃ c p : Nat, cv = .int .i64 (c : Nat) ∧ pw = .int .u64 (p : Nat) ∧ Hid (p = r ^ c) ∧ Hid (1 ≤ c) ∧ Hid (p < 4294967296) ∧ w = wr) (fun _ pw _ => 4294967296 - (intOf pw).toNat)
 case atStart => exact ⟨1, r, rfl, rfl, Lh (by rw [Nat.pow_one]), Lh (Nat.le_refl _), Lh (by have := H36.out; omega), rfl⟩
 case round =>
  obtain ⟨c, p, rfl, rfl, HP, HC, HL, rfl⟩ := hrel
  have hc32 : c < 32 := by
   have h1 : 2 ^ c ≤ r ^ c := Nat.pow_le_pow_left H2.out c
   have h3 := HL.out
   rw [HP.out] at h3
   exact (Nat.pow_lt_pow_iff_right (a := 2) (by omega)).1 (Nat.lt_of_le_of_lt h1 (show r ^ c < 2 ^ 32 from h3))
  obtain ⟨t, ht⟩ : ∃ t, p * r = t := ⟨_, rfl⟩
  have htl : t ≤ 4294967295 * 36 := by rw [← ht]; exact Nat.mul_le_mul (by have := HL.out; omega) H36.out
  have k1 : IntKind.u64.wrap ((p : Int) * (r : Int)) = (t : Int) := by
   have e : ((p : Int) * (r : Int)) = ((p * r : Nat) : Int) := (Int.natCast_mul p r).symm
   rw [e, ht]
   exact IntWalk.u64_in _ (by omega)
  have HT := Lh ht
  by_cases hle : t ≤ 4294967295
  ·have a1 : (t : Int) ≤ 4294967295 := by omega
   have HPN := Lh (show t = r ^ (c + 1) by rw [← HT.out, HP.out, Nat.pow_succ])
   have HTP := Lh (show p < t by
    have h1 : p * 2 ≤ p * r := Nat.mul_le_mul_left _ H2.out
    have h3 : 0 < r ^ c := Nat.pow_pos (by have := H2.out; omega)
    have h4 := HP.out
    have h5 := HT.out
    omega)
   have hcc : (c : Int) < 32 := by omega
   clear ht htl hle
   go_wp2
   go_roundw
   case rel => exact ⟨c + 1, t, by go_num, rfl, HPN, Lh (by omega), Lh (by omega), trivial⟩
   case measure => have := HTP.out; simp [intOf]; omega
  ·have a1 : ¬ (t : Int) ≤ 4294967295 := by omega
   have k2 : IntKind.u32.wrap (p : Int) = (p : Int) := IntWalk.u32_in _ (by have := HL.out; omega)
   clear ht htl hle
   go_wp2
   go_ret2
   exact ⟨⟨c, p, rfl, HP.out, HC.out, by omega, HL.out⟩, rfl⟩
def adB (r : Nat) (s : ByteArray) : Bool := decide (0 < s.size) && decide (∀ i, i < s.size → dgt (btn s i) < r)
theorem Agi {r : Nat} {s : ByteArray} {i : Nat} (hi : i < s.size) (h : ¬ dgt (btn s i) < r) : adB r s = false := by
 unfold adB
 rw [decide_eq_false (p := ∀ i, i < s.size → dgt (btn s i) < r) (fun a => h (a i hi)), Bool.and_false]
theorem Wq {r : Nat} {s : ByteArray} (h : ∀ i, i < s.size → dgt (btn s i) < r) : adB r s = decide (0 < s.size) := by
 unfold adB
 rw [decide_eq_true h, Bool.and_true]
theorem Mb (s : ByteArray) (r : Nat) (w : World) (hs : s.size ≤ 4611686018427387903) (h36 : r ≤ 36) :
  Cq 170 #[.string s, .int .i64 r] (.bool (adB r s)) w := by
 have hs1 : (s.size : Int) ≤ 4611686018427387903 := by omega
 have H36 := Lh h36
 clear hs h36
 go_enter Tryz.func170, Tryz.ntmps170
 go_wp2
 go_loopw [8] (fun iv wr => ∃ k : Nat, iv = .int .i64 (k : Nat) ∧ k ≤ s.size ∧ Hid (∀ i, i < k → dgt (btn s i) < r) ∧ w = wr) (fun iv _ => s.size - (intOf iv).toNat)
 case atStart => exact ⟨0, rfl, Nat.zero_le _, Lh (fun i hi => by omega), rfl⟩
 case round =>
  obtain ⟨k, rfl, hk, HD, rfl⟩ := hrel
  by_cases hlt : k < s.size
  ·have C1 := Lh (fun W => show Cp 217 #[.int .u8 ((s[k]'hlt).toNat : Nat)] W fun e w' => e = .returned (.int .i64 (dgt (btn s k) : Nat)) ∧ W = w' from by
    rw [Ks s k hlt]; exact J9 _ W (Acy s k))
   have hk1 : (k : Int) < (s.size : Int) := by omega
   have hd := Acx (btn s k)
   obtain ⟨d, hde⟩ : ∃ d, dgt (btn s k) = d := ⟨_, rfl⟩
   rw [hde] at C1 hd
   by_cases hdr : d < r
   ·have HD2 := Lh (show ∀ i, i < k + 1 → dgt (btn s i) < r from fun i hi => by
     by_cases e : i = k
     ·rw [e, hde]; exact hdr
     ·exact HD.out i (by omega))
    have a1 : ¬ (r : Int) ≤ (d : Int) := by omega
    clear hde hdr hd
    go_wp2_with fail
    refine Sm (C1.out _) ?_
    go_wp2
    go_roundw
    case rel => exact ⟨k + 1, by go_num, by omega, HD2, trivial⟩
    case measure => simp [intOf]; omega
   ·have HF := Lh (Agi (r := r) hlt (by rw [hde]; exact hdr))
    have a1 : (r : Int) ≤ (d : Int) := by omega
    clear hde hdr hd
    go_wp2_with fail
    refine Sm (C1.out _) ?_
    go_wp2
    go_ret
    exact ⟨Fw HF.out.symm, rfl⟩
  ·have HF := Lh (Wq (r := r) (s := s) (fun i hi => HD.out i (by omega)))
   have hks : k = s.size := by omega
   subst hks
   clear hlt
   go_wp2
   go_ret
   exact ⟨(Fw (by simp)).trans (Fw HF.out.symm), rfl⟩
theorem Y3 (s : ByteArray) (r : Nat) (w : World) (h36 : r ≤ 36) (h2 : 2 ≤ r) (hp : r ^ s.size < 4294967296) (hd : ∀ i, i < s.size → dgt (btn s i) < r) :
  Cq 172 #[.string s, .int .i64 r] (.tuple #[.int .u32 (pv r (fun i => dgt (btn s i)) s.size : Nat), .int .u32 (r ^ s.size : Nat)]) w := by
 have hs32 : s.size < 32 := by
  have h1 : 2 ^ s.size ≤ r ^ s.size := Nat.pow_le_pow_left h2 _
  exact (Nat.pow_lt_pow_iff_right (a := 2) (by omega)).1 (Nat.lt_of_le_of_lt h1 (show r ^ s.size < 2 ^ 32 from hp))
 have hs1 : (s.size : Int) ≤ 32 := by omega
 have k0 : IntKind.u32.wrap (r : Int) = (r : Int) := IntWalk.u32_in _ (by omega)
 have H2 := Lh h2
 have HP := Lh hp
 have HD := Lh hd
 clear h36 h2 hp hd hs32
 go_enter Tryz.func172, Tryz.ntmps172
 go_wp2
 go_loopw [6, 7, 11] (fun vv pw iv wr => ∃ k : Nat, iv = .int .i64 (k : Nat) ∧ vv = .int .u32 (pv r (fun i => dgt (btn s i)) k : Nat) ∧ pw = .int .u32 (r ^ k : Nat) ∧ k ≤ s.size ∧ w = wr) (fun _ _ iv _ => s.size - (intOf iv).toNat)
 case atStart => exact ⟨0, rfl, rfl, rfl, Nat.zero_le _, rfl⟩
 case round =>
  obtain ⟨k, rfl, rfl, rfl, hk, rfl⟩ := hrel
  by_cases hlt : k < s.size
  ·have C1 := Lh (fun W => show Cp 217 #[.int .u8 ((s[k]'hlt).toNat : Nat)] W fun e w' => e = .returned (.int .i64 (dgt (btn s k) : Nat)) ∧ W = w' from by
    rw [Ks s k hlt]; exact J9 _ W (Acy s k))
   have hk1 : (k : Int) < (s.size : Int) := by omega
   have hle := Acx (btn s k)
   have hv1 : pv r (fun i => dgt (btn s i)) (k + 1) < r ^ (k + 1) := We (fun i hi => HD.out i (by omega))
   have hp1 : r ^ (k + 1) < 4294967296 := Nat.lt_of_le_of_lt (Nat.pow_le_pow_right (by have := H2.out; omega) hlt) HP.out
   have ev : pv r (fun i => dgt (btn s i)) (k + 1) = pv r (fun i => dgt (btn s i)) k * r + dgt (btn s k) := rfl
   have ep : r ^ (k + 1) = r ^ k * r := Nat.pow_succ _ _
   obtain ⟨d, hde⟩ : ∃ d, dgt (btn s k) = d := ⟨_, rfl⟩
   rw [hde] at C1 hle ev
   obtain ⟨V, hV⟩ : ∃ V, pv r (fun i => dgt (btn s i)) k = V := ⟨_, rfl⟩
   obtain ⟨V1, hV1⟩ : ∃ V1, pv r (fun i => dgt (btn s i)) (k + 1) = V1 := ⟨_, rfl⟩
   obtain ⟨P, hP⟩ : ∃ P, r ^ k = P := ⟨_, rfl⟩
   obtain ⟨P1, hP1⟩ : ∃ P1, r ^ (k + 1) = P1 := ⟨_, rfl⟩
   have HV1 := Lh hV1
   have HP1 := Lh hP1
   rw [hV, hV1] at ev
   rw [hP1, hP] at ep
   rw [hV1, hP1] at hv1
   rw [hP1] at hp1
   rw [hV, hP]
   obtain ⟨t, ht⟩ : ∃ t, V * r = t := ⟨_, rfl⟩
   rw [ht] at ev
   have k1 : IntKind.u32.wrap ((V : Int) * (r : Int)) = (t : Int) := by
    rw [show ((V : Int) * (r : Int)) = ((V * r : Nat) : Int) from (Int.natCast_mul V r).symm, ht]; exact IntWalk.u32_in _ (by omega)
   have k2 : IntKind.u32.wrap (d : Int) = (d : Int) := IntWalk.u32_in _ (by omega)
   have k3 : IntKind.u32.wrap ((t : Int) + (d : Int)) = (V1 : Int) := by rw [IntWalk.u32_in _ (by omega)]; omega
   have k4 : IntKind.u32.wrap ((P : Int) * (r : Int)) = (P1 : Int) := by
    rw [show ((P : Int) * (r : Int)) = ((P * r : Nat) : Int) from (Int.natCast_mul P r).symm, ← ep]; exact IntWalk.u32_in _ (by omega)
   clear hle hv1 hp1 ev ep hde hV hV1 hP hP1 ht
   go_wp2_with fail
   refine Sm (C1.out _) ?_
   go_wp2
   go_roundw
   case rel => exact ⟨k + 1, by go_num, by rw [HV1.out], by rw [HP1.out], by omega, trivial⟩
   case measure => simp [intOf]; omega
  ·have hks : k = s.size := by omega
   rw [hks]
   clear hlt hk hks
   go_wp2
   go_ret2
   exact ⟨rfl, rfl⟩
theorem Qn (x : Int) (w : World) : Cq 265 #[.int .i64 x] (.bool false) w := by
 go_enter Tryz.func265, Tryz.ntmps265
 go_wp2
 go_ret
 exact ⟨rfl, rfl⟩
theorem Rh (x : Int) (w : World) : Cq 266 #[.int .u32 x] (.bool false) w := by
 go_enter Tryz.func266, Tryz.ntmps266
 go_wp2
 go_ret
 exact ⟨rfl, rfl⟩
def sgn (a b : Int) : Int := if a < b then -1 else if b < a then 1 else 0
theorem Qr (x y : Int) (w : World) : Cq 252 #[.int .i64 x, .int .i64 y] (.int .i64 (sgn x y)) w := by
 go_enter Tryz.func252, Tryz.ntmps252
 go_wp2_with (first | (go_at_call 265; refine (Qn _ _).mono ?_; rintro e w' ⟨rfl, rfl⟩))
 all_goals go_ret
 all_goals exact ⟨Ge (by unfold sgn; split <;> (try split) <;> omega), rfl⟩
theorem Pk (x y : Int) (w : World) : Cq 253 #[.int .u32 x, .int .u32 y] (.int .i64 (sgn x y)) w := by
 go_enter Tryz.func253, Tryz.ntmps253
 go_wp2_with (first | (go_at_call 266; refine (Rh _ _).mono ?_; rintro e w' ⟨rfl, rfl⟩))
 all_goals go_ret
 all_goals exact ⟨Ge (by unfold sgn; split <;> (try split) <;> omega), rfl⟩
theorem Ux {P : Program} {f : FuncId} {args : Array Value} {w : World} {a n : Nat} {v : Value}
  (h : Calls P f args (w.drewN (a + n)) fun e w' => e = .returned v ∧ w.drewN (a + n) = w') : Calls P f args (w.drewN (a + n)) fun e w'' => e = .returned v ∧ ∃ m, w'' = w.drewN (a + m) :=
 h.mono fun _ _ ⟨he, hm⟩ => ⟨he, n, hm.symm⟩
theorem Ahr (w : World) (a b c : Nat) : ((w.drewN a).drewN b).drewN c = w.drewN (a + b + c) := by rw [World.drewN_drewN, World.drewN_drewN, Nat.add_assoc]
def ord (l m : List Nat) : Int := sgn (val l) (val m)
theorem Un {l m : List Nat} (h : val l < val m) : ord l m = -1 := by unfold ord sgn; rw [if_pos (by omega)]
theorem Tr {l m : List Nat} (h : val m < val l) : ord l m = 1 := by unfold ord sgn; rw [if_neg (by omega), if_pos (by omega)]
theorem Aau {l m : List Nat} (h : val l = val m) : ord l m = 0 := by unfold ord sgn; rw [if_neg (by omega), if_neg (by omega)]
theorem Agv {l m : List Nat} (hl : Ws l) (hm : Ws m) (i : Nat) (h : ∀ j, i < j → l.getD j 0 = m.getD j 0) (hne : l.getD i 0 ≠ m.getD i 0) : ord l m = sgn (l.getD i 0 : Nat) (m.getD i 0 : Nat) := by
 rcases Nat.lt_or_gt_of_ne hne with h1 | h1
 ·rw [Un (Uf i l m hl hm h h1)]; unfold sgn; rw [if_pos (by omega)]
 ·rw [Tr (Uf i m l hm hl (fun j hj => (h j hj).symm) h1)]; unfold sgn; rw [if_neg (by omega), if_pos (by omega)]
theorem Aeg (l m : List Nat) : ord (nrm l) (nrm m) = ord l m := by unfold ord; rw [Ar, Ar]
theorem Aej {l m : List Nat} (hl : Ws l) (hm : Ws m) (h : (nrm l).length ≠ (nrm m).length) : ord l m = sgn ((nrm l).length : Nat) ((nrm m).length : Nat) := by
 rcases Nat.lt_or_gt_of_ne h with h1 | h1
 ·rw [Un (Jp hl h1)]; unfold sgn; rw [if_pos (by omega)]
 ·rw [Tr (Jp hm h1)]; unfold sgn; rw [if_neg (by omega), if_pos (by omega)]
theorem Vr (A C : Option Addr) (n c m d : Nat) (l k : List Nat) (B D : Nat) (w : World) (hn : l.length = n) (hc : n ≤ c) (hm : n ≤ 35184372088832) (h : RW w B A l)
  (gn : k.length = m) (gc : m ≤ d) (gm : m ≤ 35184372088832) (g : RW w D C k) :
  Cp 233 #[.slice A n c, .slice C m d] w fun e w' => e = .returned (.int .i64 (ord l k)) ∧ ∃ j, w' = w.drewN j := by
 have c1 := Ak A n c l B w hn hc hm h
 have c2 := Ak C m d k D w gn gc gm g
 have hle := Bq l
 have gle := Bq k
 by_cases hlen : (nrm l).length = (nrm k).length
 ·obtain ⟨N, hN⟩ : ∃ N, (nrm l).length = N := ⟨_, rfl⟩
  rw [← hlen, hN] at c2
  rw [hN] at c1
  have hN1 : (N : Int) ≤ 35184372088832 := by omega
  have HL := Lh hN
  have HK := Lh (hlen ▸ hN : (nrm k).length = N)
  have HR := Lh h.nrm
  have GR := Lh g.nrm
  rw [← Aeg]
  clear hn hc hm h gn gc gm g hle gle hlen hN
  go_enter Tryz.func233, Tryz.ntmps233
  go_wp2_with fail
  refine c1.mono ?_
  rintro e w' ⟨rfl, rfl⟩
  go_wp2_with fail
  refine c2.mono ?_
  rintro e w' ⟨rfl, rfl⟩
  go_wp2
  go_loopw [5] (fun i wr => ∃ q : Nat, i = .int .i64 ((q : Int) - 1) ∧ q ≤ N ∧ Hid (∀ j, q ≤ j → (nrm l).getD j 0 = (nrm k).getD j 0) ∧ ∃ j, wr = w.drewN j) (fun i _ => (intOf i + 1).toNat)
  case atStart => exact ⟨N, rfl, Nat.le_refl _, Lh (fun j hj => by rw [Ic (by rw [HL.out]; exact hj), Ic (by rw [HK.out]; exact hj)]), 0, rfl⟩
  case round =>
   obtain ⟨q, rfl, hq, HQ, j, rfl⟩ := hrel
   by_cases h0 : q = 0
   ·have HE := Lh (show ord (nrm l) (nrm k) = 0 from Aau (Oc (fun j => HQ.out j (by omega))))
    subst h0
    go_wp2
    go_ret
    exact ⟨Ge (by rw [HE.out]), _, rfl⟩
   ·obtain ⟨i, rfl⟩ : ∃ i, q = i + 1 := ⟨q - 1, by omega⟩
    obtain ⟨a, o, rfl, _, ha⟩ := HR.out.2 (by rw [HL.out]; omega)
    obtain ⟨b, p, rfl, _, hb⟩ := GR.out.2 (by rw [HK.out]; omega)
    have d1 := ha i _ (Ba (by rw [HL.out]; omega))
    have d2 := hb i _ (Ba (by rw [HK.out]; omega))
    by_cases hne : (nrm l).getD i 0 = (nrm k).getD i 0
    ·obtain ⟨u, hu⟩ : ∃ u, (nrm l).getD i 0 = u := ⟨_, rfl⟩
     rw [← hne] at d2
     rw [hu] at d1 d2
     have HQ2 := Lh (show ∀ j, i ≤ j → (nrm l).getD j 0 = (nrm k).getD j 0 from fun j hj => by
      by_cases e : j = i
      ·rw [e]; exact hne
      ·exact HQ.out j (by omega))
     have b1 : (0 : Int) ≤ (i : Int) := by omega
     have b2 : (i : Int) < (N : Int) := by omega
     clear hu hne ha hb HR GR
     go_wp2
     go_quiet (fail)
     go_wp2
     go_roundw
     case rel => exact ⟨i, by go_num, by omega, HQ2, _, rfl⟩
     case measure => simp [intOf]
    ·have HE := Lh (Agv HR.out.1 GR.out.1 i (fun j hj => HQ.out j (by omega)) hne)
     obtain ⟨u, hu⟩ : ∃ u, (nrm l).getD i 0 = u := ⟨_, rfl⟩
     obtain ⟨v, hv⟩ : ∃ v, (nrm k).getD i 0 = v := ⟨_, rfl⟩
     rw [hu, hv] at HE
     rw [hu] at d1 hne
     rw [hv] at d2 hne
     have b1 : (0 : Int) ≤ (i : Int) := by omega
     have b2 : (i : Int) < (N : Int) := by omega
     have b3 : ((u : Int) == (v : Int)) = false := by simp; omega
     have HNE := Lh hne
     clear hu hv ha hb HR GR hne
     go_wp2
     go_quiet (fail)
     go_wp2
     go_quiet ((go_at_call 253; exact Ux (Pk _ _ _)))
     go_wp2
     go_ret
     exact ⟨Ge (by rw [HE.out]), _, Ahr _ _ _ _⟩
 ·have HE := Lh (Aej h.1 g.1 hlen)
  obtain ⟨N, hN⟩ : ∃ N, (nrm l).length = N := ⟨_, rfl⟩
  obtain ⟨M, hM⟩ : ∃ M, (nrm k).length = M := ⟨_, rfl⟩
  rw [hN] at c1 hlen
  rw [hM] at c2 hlen
  rw [hN, hM] at HE
  have hne : ¬ (N : Int) = (M : Int) := by omega
  clear hn hc hm h gn gc gm g hle gle hlen hN hM
  go_enter Tryz.func233, Tryz.ntmps233
  go_wp2_with fail
  refine c1.mono ?_
  rintro e w' ⟨rfl, rfl⟩
  go_wp2_with fail
  refine c2.mono ?_
  rintro e w' ⟨rfl, rfl⟩
  go_wp2_with (go_at_call 252; refine (Qr _ _ _).mono ?_; rintro e w' ⟨rfl, rfl⟩)
  go_ret
  exact ⟨Ge (by rw [HE.out]), 0, rfl⟩
theorem Ae1 (x y P Q : Nat) (hxy : x * P % 4294967296 < 4294967296) (hq : y / Q < 4294967296) : bits BinOp.or IntKind.u32 ((x : Int) * (P : Nat) % 4294967296) ((y : Int) / (Q : Nat)) = ((x * P % 4294967296 ||| y / Q : Nat) : Int) := by
 rw [← Uc _ _ hxy hq]; rfl
theorem Af7 (x y s : Nat) (hs : s < 32) (hy : y < 4294967296) : bits BinOp.or IntKind.u32 ((x : Int) * 2 ^ s % 4294967296) ((y : Int) / 2 ^ (32 - s)) = ((x * 2 ^ s % 4294967296 + y / 2 ^ (32 - s) : Nat) : Int) := by
 rw [← Adm x y s (by omega) hy, ← Ae1 x y _ _ (Nat.mod_lt _ (by omega)) (Nat.lt_of_le_of_lt (Nat.div_le_self _ _) hy), Int.natCast_pow, Int.natCast_pow]
 rfl
theorem or_zero (x s : Nat) : bits BinOp.or IntKind.u32 ((x : Int) * 2 ^ s % 4294967296) 0 = ((x * 2 ^ s % 4294967296 + 0 : Nat) : Int) := by
 have h : x * 2 ^ s % 4294967296 < 4294967296 := Nat.mod_lt _ (by omega)
 have e : ((x : Int) * 2 ^ s % 4294967296) = ((x * 2 ^ s % 4294967296 : Nat) : Int) := by rw [Int.natCast_emod, Int.natCast_mul, Int.natCast_pow]; rfl
 rw [e, show (0 : Int) = ((0 : Nat) : Int) from rfl, Uc _ _ h (by omega), Nat.or_zero, Nat.add_zero]
theorem O0 (g o n c s : Nat) (R : List Nat) (A : Option Addr) (m d : Nat) (b : List Nat) (B : Nat) (w : World) (hR : Row w g R) (hRw : Ws R) (ho : o + n ≤ R.length) (hbl : b.length = m) (hm : m ≤ 4096) (hn : n ≤ 4096)
  (hB : RW w B A b) (hgB : B ≤ g) (hs : s < 32) :
  Cp 232 #[.slice (some ⟨g, o, none⟩) n c, .slice A m d, .int .i64 s] w (fun e w' => e = .returned (.tuple #[]) ∧ ∃ S, ShlP R o b s n S ∧ Row w' g S ∧ Below g w w') := by
 have hn1 : (n : Int) ≤ 4096 := by omega
 have hs1 : (s : Int) < 32 := by omega
 have hs0 : (0 : Int) ≤ (s : Int) := by omega
 have hB2 := Lh hB
 have HR := Lh hR
 have HSTART := Lh (ShlP.start o b s hRw)
 clear hR
 go_enter Tryz.func232, Tryz.ntmps232
 go_wp2
 go_loopw [9] (fun i wr => ∃ (k : Nat) (S : List Nat), i = .int .i64 k ∧ k ≤ n ∧ Hid (Row wr g S) ∧ Hid (ShlP R o b s k S) ∧ Below g w wr) (fun i _ => n - (intOf i).toNat)
 case atStart => exact ⟨0, R, rfl, Nat.zero_le _, HR, HSTART, Below.refl _ _⟩
 case round =>
  obtain ⟨k, S, rfl, hk, HRS, HS, hbw⟩ := hrel
  by_cases hlt : k < n
  ·have hS := HRS.out.cell (o + k) (by have := HS.out.len; omega)
   have hfz := HRS.out.frozen (o + k)
   have HNX := Lh (HS.out.next hB2.out.1 (by omega) (by have := HS.out.len; omega))
   have HROW := Lh (HRS.out.set (o + k) (Kh b s k))
   have C1 := Lh (fun W (hW : Below g w W) => Cu A m d k b B W hbl (by omega) (hB2.out.below (hW.mono hgB)))
   have hbd := Ae hbw 1
   have HBS := Lh (show Below g w (wr.setCell ⟨g, o + k, none⟩ (.int .u32 (Kh b s k : Nat))) from hbw.setCell (Nat.le_refl _) _)
   obtain ⟨x, hx⟩ : ∃ x, b.getD k 0 = x := ⟨_, rfl⟩
   rw [hx] at C1
   have hkk : (k : Int) < (n : Int) := by omega
   have e2 : IntKind.i64.wrap (32 - (s : Int)) = 32 - (s : Int) := IntWalk.i64_in _ (by omega)
   have e3 : (0 : Int) ≤ 32 - (s : Int) := by omega
   rcases Nat.eq_zero_or_pos k with hk0 | hk0
   ·subst hk0
    have C2 := Lh (fun W => Aa2 A m d W)
    have HW := Lh (show ((Kh b s 0 : Nat) : Int) = bits BinOp.or IntKind.u32 ((x : Int) * 2 ^ s % 4294967296) 0 by
     rw [or_zero]; unfold Kh Ie; rw [hx, if_pos rfl])
    have e1 : IntKind.i64.wrap (-1) = -1 := rfl
    rw [show ((0 : Nat) : Int) = 0 from rfl] at C1
    rw [Nat.add_zero] at hS hfz HROW HNX HBS
    clear hx hB ho hbl
    go_wp2
    go_region_with (first
       | (go_at_call 178; (with_reducible refine (C2.out _).mono ?_); rintro e w' ⟨rfl, rfl⟩)
       | (go_at_call 178; (with_reducible refine (C1.out _ ?_).mono ?_); exact hbd; rintro e w' ⟨rfl, rfl⟩))
    all_goals
     go_wp2_with fail
     rw [← HW.out]
     exact ⟨⟨0 + 1, _, rfl, hlt, HROW, HNX, Ae HBS.out 1⟩, by simp [intOf]; omega⟩
   ·obtain ⟨j, rfl⟩ : ∃ j, k = j + 1 := ⟨k - 1, by omega⟩
    have C2 := Lh (fun W (hW : Below g w W) => Cu A m d j b B W hbl (by omega) (hB2.out.below (hW.mono hgB)))
    obtain ⟨y, hy⟩ : ∃ y, b.getD j 0 = y := ⟨_, rfl⟩
    rw [hy] at C2
    have HW := Lh (show ((Kh b s (j + 1) : Nat) : Int) = bits BinOp.or IntKind.u32 ((x : Int) * 2 ^ s % 4294967296) ((y : Int) / 2 ^ (32 - s)) by
     rw [Af7 x y s hs (by rw [← hy]; exact hB2.out.1.getD j)]
     unfold Kh Ie; rw [hx, if_neg (by omega), Nat.add_sub_cancel, hy])
    rw [show ((j + 1 : Nat) : Int) = (j : Int) + 1 by omega] at C1 hkk
    have e1 : IntKind.i64.wrap (j : Int) = (j : Int) := IntWalk.i64_in _ (by omega)
    clear hx hy hB ho hbl hk0 hk
    go_wp2
    go_region_with (first
       | (go_at_call 178; (with_reducible refine (C1.out _ ?_).mono ?_); exact hbd; rintro e w' ⟨rfl, rfl⟩)
       | (go_at_call 178; (with_reducible refine (C2.out _ ?_).mono ?_); exact hbd; rintro e w' ⟨rfl, rfl⟩))
    all_goals
     go_wp2_with fail
     rw [← HW.out]
     exact ⟨⟨j + 1 + 1, _, rfl, hlt, HROW, HNX, Ae HBS.out 1⟩, by simp [intOf]; omega⟩
  ·have hkn : k = n := by omega
   subst hkn
   clear hlt hbl
   go_wp2
   go_end0
   exact ⟨rfl, S, HS.out, HRS.out, hbw⟩
theorem Mt (hi lo y : Nat) (w : World) (h : hi < y) (hl : lo < 4294967296) (hy : y < 4294967296) :
  Cp 258 #[.int .u32 hi, .int .u32 lo, .int .u32 y] w fun e w' => e = .returned (.tuple #[.int .u32 (((hi * 4294967296 + lo) / y : Nat) : Int), .int .u32 (((hi * 4294967296 + lo) % y : Nat) : Int)]) ∧ ∃ j, w' = w.drewN j := by
 have k1 : IntKind.u64.wrap (hi : Int) = (hi : Int) := IntWalk.u64_in _ (by omega)
 have k2 : IntKind.u64.wrap (lo : Int) = (lo : Int) := IntWalk.u64_in _ (by omega)
 have k3 : IntKind.u64.wrap (y : Int) = (y : Int) := IntWalk.u64_in _ (by omega)
 obtain ⟨U, hU⟩ : ∃ U, hi * 4294967296 = U := ⟨_, rfl⟩
 have k4 : IntKind.u64.wrap ((hi : Int) * 4294967296) = (U : Int) := by rw [IntWalk.u64_in _ (by omega)]; omega
 have hor := Qh hi lo hl
 rw [hU] at hor ⊢
 obtain ⟨t, ht⟩ : ∃ t, U + lo = t := ⟨_, rfl⟩
 rw [ht] at hor ⊢
 have k5 : bits BinOp.or IntKind.u64 (U : Int) (lo : Int) = (t : Int) := by rw [E9 U lo (by omega) (by omega), hor]
 have hq : t / y < 4294967296 := by rw [Nat.div_lt_iff_lt_mul (by omega)]; have : (hi + 1) * 4294967296 ≤ y * 4294967296 := Nat.mul_le_mul_right _ h; omega
 have hr : t % y < 4294967296 := Nat.lt_trans (Nat.mod_lt _ (by omega)) hy
 obtain ⟨q, hqe⟩ : ∃ q, t / y = q := ⟨_, rfl⟩
 obtain ⟨r, hre⟩ : ∃ r, t % y = r := ⟨_, rfl⟩
 have k6 : (t : Int) / (y : Int) = (q : Int) := by rw [← hqe]; exact (Int.natCast_ediv t y).symm
 have k7 : (t : Int) % (y : Int) = (r : Int) := by rw [← hre]; exact (Int.natCast_emod t y).symm
 rw [hqe] at hq ⊢
 rw [hre] at hr ⊢
 have k8 : IntKind.u32.wrap (q : Int) = (q : Int) := IntWalk.u32_in _ (by omega)
 have k10 : IntKind.u64.wrap (q : Int) = (q : Int) := IntWalk.u64_in _ (by omega)
 have k9 : IntKind.u32.wrap (r : Int) = (r : Int) := IntWalk.u32_in _ (by omega)
 have y0 : ((y : Int) == 0) = false := by simp; omega
 have y1 : (hi : Int) < (y : Int) := by omega
 have y2 : ¬ (y : Int) = 0 := by omega
 clear h hl hy hU hor ht hq hr hqe hre
 go_enter Tryz.func258, Tryz.ntmps258
 go_wp2
 go_quiet (fail)
 go_wp2
 go_ret2
 exact ⟨rfl, _, rfl⟩
theorem Aaj (A : Option Addr) (n c : Nat) (l : List Nat) (w : World) (hn : l.length = n) (hc : n ≤ c) (hm : n ≤ 35184372088832) (h : RW w w.heap.size A l) :
  Cp 220 #[.slice A n c] w (fun e w' => e = .returned (.slice (some ⟨w.heap.size, 0, none⟩) (nrm l).length (nrm l).length) ∧ Row w' w.heap.size (nrm l) ∧ Below w.heap.size w w') := by
 have c1 := fun W (h : RW W w.heap.size A l) => Ak A n c l w.heap.size W hn hc hm h
 obtain ⟨m, hm0⟩ : ∃ m, (nrm l).length = m := ⟨_, rfl⟩
 have hle : m ≤ n := by rw [← hm0, ← hn]; exact Bq l
 rw [hm0] at c1 ⊢
 have hmk := run_make_row' (P := Tryz.prog) 121 129 (.int .u32 0) 4 Tryz.underlying121 F6 rfl .i64 .i64 m (by omega) (by omega) w
 have hmade := World.rowIs_made w (.int .u32 0) m 129
 have HC := Lh (h.nrm)
 have HM := Lh hm0
 have hm1 : (m : Int) ≤ 35184372088832 := by omega
 have HR := Lh h
 have HX := Lh hmade
 clear h hn hc hm hm0 hle hmade
 go_enter Tryz.func220, Tryz.ntmps220
 go_wp2_with (first | (go_at_call 218; refine (c1 _ HR.out).mono ?_; rintro e w' ⟨rfl, rfl⟩) | (with_reducible refine wpList_copy_splice rfl (.tmp 9) (.tmp 10) 121 121 rfl 129 Tryz.underlying121 (by kernel_rfl) (some ⟨w.heap.size, 0, none⟩) A m m m m ?e1 ?e2 w.heap.size 0 (List.replicate m (.int .u32 0)) 129 ?k1 ((nrm l).map fun u => Value.int .u32 (u : Nat)) ?k2 ?k3 ?k4 ?k5 w.heap.size w ?k6 (Nat.le_refl _) ?_))
 case e1 => rfl
 case e2 => rfl
 case k1 =>
  have e := heap_alloc_new w (.cells (madeCells #[Value.int .u32 0] m) 129)
  rw [show madeCells #[Value.int .u32 0] m = (List.replicate m (Value.int .u32 0)).toArray from Array.toList_inj.1 (by rw [toList_madeCells_one, List.toList_toArray])] at e ⊢
  exact e
 case k2 => rw [List.length_map, HM.out]; exact (Nat.min_self _).symm
 case k3 =>
  intro hp
  have hp' : 0 < (nrm l).length := by simpa using hp
  obtain ⟨b, off, e, hb, hc⟩ := HC.out.2 hp'
  refine ⟨⟨b, off, none⟩, e, fun j u hu => ?_⟩
  rw [World.cell?_alloc_lt]
  ·exact Wo hc j _ (by rw [List.getElem?_map, hu]; rfl)
  ·unfold Addr.add; split <;> exact hb
 case k4 => rw [List.length_map, HM.out, List.length_replicate]; omega
 case k5 => exact Zw _
 case k6 => exact (Below.refl _ _).alloc (Nat.le_refl _) _
 intro w2 HG2 hB2
 go_wp2
 go_ret
 refine ⟨rfl, ?_, hB2⟩
 have hG := HG2.out
 have e : splice (List.replicate m (Value.int .u32 0)) 0 ((nrm l).map fun u => Value.int .u32 (u : Nat)) = (nrm l).map fun u => Value.int .u32 (u : Nat) := by
  unfold splice
  rw [List.take_zero, List.nil_append, List.drop_of_length_le (by rw [List.length_replicate, List.length_map, HM.out]; omega), List.append_nil]
 rw [e] at hG
 exact hG
theorem Jy (g n c d : Nat) (a : List Nat) (w : World) (hR : Row w g a) (hw : Ws a) (hn : a.length = n) (hm : n ≤ 35184372088832) (hd : d < 4294967296) (hd0 : 0 < d) :
  Cp 246 #[.slice (some ⟨g, 0, none⟩) n c, .int .u32 d] w (fun e w' => e = .returned (.int .u32 ((val a % d : Nat) : Int)) ∧ ∃ S, Row w' g S ∧ S.length = n ∧ Ws S ∧ val S = val a / d ∧ Below g w w') := by
 have HR := Lh hR
 have HW := Lh hw
 have HN := Lh hn
 have hm1 : (n : Int) ≤ 35184372088832 := by omega
 have HD := Lh hd
 have HD0 := Lh hd0
 have HST := Lh (show WordT a d n a 0 from hn ▸ WordT.start hw hd0)
 clear hR hw hn hm hd hd0
 go_enter Tryz.func246, Tryz.ntmps246
 go_wp2
 go_loopw [5, 6] (fun v i wr => ∃ (k : Nat) (S : List Nat) (r : Nat), i = .int .i64 ((k : Int) - 1) ∧ v = .int .u32 (r : Nat) ∧ k ≤ n ∧ Hid (Row wr g S) ∧ Hid (WordT a d k S r) ∧ Below g w wr) (fun _ i _ => (intOf i + 1).toNat)
 case atStart => exact ⟨n, a, 0, rfl, rfl, Nat.le_refl _, HR, HST, Below.refl _ _⟩
 case round =>
  obtain ⟨k, S, r, rfl, rfl, hk, HS, HT, hbw⟩ := hrel
  by_cases h0 : k = 0
  ·subst h0
   obtain ⟨f1, f2⟩ := HT.out.fin
   have HF := Lh f1
   have HL := Lh HT.out.len
   rw [f2]
   clear f1 f2
   go_wp2
   go_ret
   exact ⟨rfl, S, HS.out, by rw [HL.out, HN.out], HT.out.ws, HF.out, hbw⟩
  ·obtain ⟨j, rfl⟩ : ∃ j, k = j + 1 := ⟨k - 1, by omega⟩
   have hja : j < a.length := by rw [HN.out]; omega
   obtain ⟨e1, e2, hnx⟩ := HT.out.next HW.out hja HD.out
   have hcell := HS.out.cell j (by rw [HT.out.len]; exact hja)
   have hfz := HS.out.frozen j
   have hx := HW.out.getD j
   have C1 := Lh (fun W => Mt r (a.getD j 0) d W HT.out.low hx HD.out)
   rw [e1] at hcell
   obtain ⟨x, hxe⟩ : ∃ x, a.getD j 0 = x := ⟨_, rfl⟩
   rw [hxe] at hcell C1 hnx
   obtain ⟨q, hq⟩ : ∃ q, (r * 4294967296 + x) / d = q := ⟨_, rfl⟩
   obtain ⟨z, hz⟩ : ∃ z, (r * 4294967296 + x) % d = z := ⟨_, rfl⟩
   rw [hq, hz] at C1 hnx
   have HNX := Lh hnx
   have hjn : (j : Int) < (n : Int) := by omega
   have k1 : IntKind.i64.wrap ((j : Int) - 1) = (j : Int) - 1 := IntWalk.i64_in _ (by omega)
   clear e1 e2 hnx hja hx hxe hq hz h0
   rw [show (((j + 1 : Nat) : Int) - 1) = (j : Int) by omega]
   go_wp2_with (go_at_call 258; refine (C1.out _).mono ?_; rintro e w' ⟨rfl, j2, rfl⟩)
   go_roundw
   case rel => exact ⟨j, _, z, by go_num, rfl, by omega, Lh ((HS.out.drewN j2).set j q), HNX, (Ae hbw j2).setCell (Nat.le_refl _) _⟩
   case measure => simp [intOf]
theorem Adk {v : Nat} (h : Ah v = false) : (wds v).length ≤ 1024 := by
 unfold Ah at h
 have h1 := of_decide_eq_false h
 omega
theorem Ms (x y c : Nat) (w : World) (hx : x < 4294967296) (hy : y < 4294967296) (hc : c < 4294967296) :
  Cq 235 #[.int .u32 x, .int .u32 y, .int .u32 c] (.tuple #[.int .u32 ((x + y + c) % 4294967296 : Nat), .int .u32 ((x + y + c) / 4294967296 : Nat)]) w := by
 have k1 : IntKind.u64.wrap (x : Int) = (x : Int) := IntWalk.u64_in _ (by omega)
 have k2 : IntKind.u64.wrap (y : Int) = (y : Int) := IntWalk.u64_in _ (by omega)
 have k3 : IntKind.u64.wrap (c : Int) = (c : Int) := IntWalk.u64_in _ (by omega)
 have k4 : IntKind.u64.wrap ((x : Int) + (y : Int)) = (x : Int) + (y : Int) := IntWalk.u64_in _ (by omega)
 obtain ⟨t, ht⟩ : ∃ t, x + y + c = t := ⟨_, rfl⟩
 have k5 : IntKind.u64.wrap ((x : Int) + (y : Int) + (c : Int)) = (t : Int) := by rw [IntWalk.u64_in _ (by omega)]; omega
 rw [ht]
 have HT := Lh (show t < 12884901888 by omega)
 have k6 : IntKind.u32.wrap ((t : Int) / 4294967296) = (t : Int) / 4294967296 := IntWalk.u32_in _ (by omega)
 clear hx hy hc ht
 go_enter Tryz.func235, Tryz.ntmps235
 go_wp2
 go_ret2
 exact ⟨rfl, rfl⟩
theorem Ag6 (A C : Option Addr) (n c m d : Nat) (l k : List Nat) (w : World) (hn : l.length = n) (hc : n ≤ c) (hm : n ≤ 35184372088832) (h : RW w w.heap.size A l)
  (gn : k.length = m) (gc : m ≤ d) (gm : m ≤ 35184372088832) (g : RW w w.heap.size C k) (hl : (Ah (val l) || Ah (val k)) = false) :
  Cp 203 #[.slice A n c, .slice C m d] w (NatPost (val l + val k) w) := by
 have c1 := Bp A C n c m d l k w hn hc hm h gn gc gm g
 have hp : Below w.heap.size w (Ea w (.slice A n c) (.slice C m d)) := (Below.refl _ _).alloc (Nat.le_refl _) _
 rw [hl] at c1
 obtain ⟨hl1, hl2⟩ : Ah (val l) = false ∧ Ah (val k) = false := by simpa using hl
 have c2 := Ak A n c l w.heap.size _ hn hc hm (h.below hp)
 have c3 := Ak C m d k w.heap.size _ gn gc gm (g.below hp)
 have n1 := Da h.1 hl1
 have n2 := Da g.1 hl2
 obtain ⟨a, ha⟩ : ∃ a, nrm l = a := ⟨_, rfl⟩
 obtain ⟨b, hb⟩ : ∃ b, nrm k = b := ⟨_, rfl⟩
 have hA := h.nrm
 have hB := g.nrm
 rw [ha] at n1 c2 hA
 rw [hb] at n2 c3 hB
 rw [← Ar l, ← Ar k, ha, hb]
 obtain ⟨N, hN⟩ : ∃ N, a.length = N := ⟨_, rfl⟩
 obtain ⟨M, hM⟩ : ∃ M, b.length = M := ⟨_, rfl⟩
 rw [hN] at n1 c2
 rw [hM] at n2 c3
 obtain ⟨K, hK⟩ : ∃ K, max N M = K := ⟨_, rfl⟩
 have hK1 : N ≤ K := by omega
 have hK2 : M ≤ K := by omega
 have hmax : max (N : Int) (M : Int) = (K : Int) := by omega
 clear h g hn hc hm gn gc gm hl hl1 hl2 ha hb
 obtain ⟨W, hW⟩ : ∃ W, Ea w (.slice A n c) (.slice C m d) = W := ⟨_, rfl⟩
 rw [hW] at c1 c2 c3 hp
 have HW := Lh hW
 have hmk := run_make_row' (P := Tryz.prog) 121 129 (.int .u32 0) 4 Tryz.underlying121 F6 rfl .i64 .i64 (K + 1) (by omega) (by omega) W
 rw [show ((K + 1 : Nat) : Int) = (K : Int) + 1 by omega] at hmk
 have hrow := Row.made W (K + 1)
 have hKK : (K : Int) ≤ 1024 := by omega
 have HN := Lh hN
 have HM := Lh hM
 have HA := Lh hA
 have HB := Lh hB
 have hgW := hp.size
 have HROW := Lh hrow
 have hbl0 : Below w.heap.size w (W.alloc (.cells (madeCells #[.int .u32 0] (K + 1)) 129)) := hp.alloc hp.size _
 have HBL := Lh hbl0
 have HK1 := Lh hK1
 have HK2 := Lh hK2
 have n1' := Lh n1
 have n2' := Lh n2
 clear hA hB hN hM hp hrow n1 n2 hbl0 hW hK hK1 hK2
 go_enter Tryz.func203, Tryz.ntmps203
 go_wp2_with fail
 rw [show w.alloc (.cells #[.slice A n c, .slice C m d] 121) = W from HW.out]
 refine c1.mono ?_
 rintro e w1 ⟨rfl, rfl⟩
 go_wp2_with fail
 refine c2.mono ?_
 rintro e w1 ⟨rfl, rfl⟩
 go_wp2_with fail
 refine c3.mono ?_
 rintro e w1 ⟨rfl, rfl⟩
 clear c1 c2 c3
 go_wp2
 go_loopw [26, 7] (fun i v wr => ∃ (q : Nat) (S : List Nat) (r : Nat), i = .int .i64 q ∧ v = .int .u32 (r : Nat) ∧ q ≤ K + 1 ∧ Hid (Row wr W.heap.size S) ∧ Hid (SumT a b q S r) ∧ Hid (S.length = K + 1) ∧ Below w.heap.size w wr) (fun i _ _ => K + 1 - (intOf i).toNat)
 case atStart => exact ⟨0, _, 0, rfl, rfl, Nat.zero_le _, HROW, Lh (SumT.start a b _ (Ws.zeros _)), Lh List.length_replicate, HBL.out⟩
 case round =>
  obtain ⟨q, S, r, rfl, rfl, hq, HR, HT, HSL, hbw⟩ := hrel
  by_cases hlt : q < K + 1
  ·have hx := HA.out.1.getD q
   have hy := HB.out.1.getD q
   have hr := HT.out.low
   have hcell := HR.out.cell q (by rw [HSL.out]; exact hlt)
   have hfz := HR.out.frozen q
   obtain ⟨t, ht⟩ : ∃ t, U5 a b q r = t := ⟨_, rfl⟩
   have htl := Vz (k := q) HA.out.1 HB.out.1 hr
   rw [ht] at htl
   have C1 := Lh (Cu A N N q a w.heap.size wr HN.out (by have := n1'.out; omega) (HA.out.below hbw))
   have C2 := Lh (Cu C M M q b w.heap.size wr HM.out (by have := n2'.out; omega) (HB.out.below hbw))
   have c3 := Ms (a.getD q 0) (b.getD q 0) r wr hx hy (by omega)
   rw [show a.getD q 0 + b.getD q 0 + r = t from ht] at c3
   have C3 := Lh c3
   have HSET := Lh (HR.out.set q (t % 4294967296))
   have HNX := Lh (show SumT a b (q + 1) (S.set q (t % 4294967296)) (t / 4294967296) by
    rw [← ht]
    refine HT.out.next HA.out.1 HB.out.1 (HT.out.ws.set (by omega)) ?_ ?_
    ·exact Co q (by rw [List.length_set, HSL.out]; omega) (by rw [HSL.out]; omega) (fun j hj => Al (by omega))
    ·exact Bg (by rw [HSL.out]; exact hlt))
   have HSL2 := Lh (show (S.set q (t % 4294967296)).length = K + 1 by rw [List.length_set]; exact HSL.out)
   have hq1 : (q : Int) < (K : Int) + 1 := by omega
   clear hx hy hr ht htl c3
   go_wp2_with fail
   refine C1.out.mono ?_
   rintro e w1 ⟨rfl, rfl⟩
   go_wp2_with fail
   refine C2.out.mono ?_
   rintro e w1 ⟨rfl, rfl⟩
   go_wp2_with fail
   refine C3.out.mono ?_
   rintro e w1 ⟨rfl, rfl⟩
   clear C1 C2 C3
   go_wp2
   go_roundw
   case rel => exact ⟨q + 1, _, t / 4294967296, by go_num, by go_num, by omega, HSET, HNX, HSL2, hbw.setCell hgW _⟩
   case measure => simp [intOf]; omega
  ·have hqK : q = K + 1 := by omega
   have hlt2 := HR.out.lt
   have HV := Lh (show val S = val a + val b from (hqK ▸ HT.out : SumT a b (K + 1) S r).whole HA.out.1 HB.out.1 (by rw [HN.out]; exact HK1.out) (by rw [HM.out]; exact HK2.out) HSL.out)
   have C1 := Lh (Et (some ⟨W.heap.size, 0, none⟩) (K + 1) (K + 1) S wr HSL.out (Nat.le_refl _) (by omega) ((HR.out.rw0 HT.out.ws).more hlt2))
   have hq1 : ¬ (q : Int) < (K : Int) + 1 := by omega
   clear hqK hlt2
   go_wp2_with fail
   refine C1.out.mono ?_
   rintro e w2 h
   have h2 := NatPost.from_ hbw h
   rw [HV.out] at h2
   obtain ⟨A2, n2, c2, k2, rfl, h3, h4⟩ := h2
   have H3 := Lh h3
   have H4 := Lh h4
   clear h h3 h4 C1
   go_wp2
   go_ret2
   exact ⟨A2, n2, c2, k2, rfl, H3.out, H4.out⟩
theorem Adq (A C : Option Addr) (n c m d : Nat) (l k : List Nat) (w : World) (hn : l.length = n) (hc : n ≤ c) (hm : n ≤ 35184372088832) (h : RW w w.heap.size A l)
  (gn : k.length = m) (gc : m ≤ d) (gm : m ≤ 35184372088832) (g : RW w w.heap.size C k) (hl : (Ah (val l) || Ah (val k)) = true) :
  Cp 203 #[.slice A n c, .slice C m d] w (Ck 3 w) := by
 have c1 := Bp A C n c m d l k w hn hc hm h gn gc gm g
 have hp : Below w.heap.size w (Ea w (.slice A n c) (.slice C m d)) := (Below.refl _ _).alloc (Nat.le_refl _) _
 rw [hl] at c1
 have HP := Lh hp
 clear h g hn hc hm gn gc gm hl hp
 go_enter Tryz.func203, Tryz.ntmps203
 go_wp2_with fail
 refine c1.mono ?_
 rintro e w1 ⟨rfl, rfl⟩
 go_wp2
 go_ret2
 exact ⟨rfl, HP.out⟩
def Adw (v u : Nat) (w : World) (e : Ending) (w' : World) : Prop := if (Ah v || Ah u) = true then Ck 3 w e w' else NatPost (v + u) w e w'
theorem Aeq (A C : Option Addr) (n c m d : Nat) (l k : List Nat) (w : World) (hn : l.length = n) (hc : n ≤ c) (hm : n ≤ 35184372088832) (h : RW w w.heap.size A l)
  (gn : k.length = m) (gc : m ≤ d) (gm : m ≤ 35184372088832) (g : RW w w.heap.size C k) :
  Cp 203 #[.slice A n c, .slice C m d] w (Adw (val l) (val k) w) := by
 cases hl : (Ah (val l) || Ah (val k))
 ·exact (Ag6 A C n c m d l k w hn hc hm h gn gc gm g hl).mono (fun e w' x => by unfold Adw; rw [if_neg (by rw [hl]; simp)]; exact x)
 ·exact (Adq A C n c m d l k w hn hc hm h gn gc gm g hl).mono (fun e w' x => by unfold Adw; rw [if_pos hl]; exact x)
theorem E1 (n : Nat) (h : n < 18446744073709551616) : nrm (two n) = wds n := by rw [Cb (Ac6 h), Wg]
end
section
theorem Abp (x y s : Nat) (hs : s ≤ 32) (hx : x < 4294967296) : bits BinOp.or IntKind.u32 ((x : Int) / 2 ^ s) ((y : Int) * 2 ^ (32 - s) % 4294967296) = ((y * 2 ^ (32 - s) % 4294967296 + x / 2 ^ s : Nat) : Int) := by
 have h := Adm y x (32 - s) (by omega) hx
 rw [show 32 - (32 - s) = s by omega] at h
 have h1 : x / 2 ^ s < 4294967296 := Nat.lt_of_le_of_lt (Nat.div_le_self _ _) hx
 have h2 : y * 2 ^ (32 - s) % 4294967296 < 4294967296 := Nat.mod_lt _ (by omega)
 rw [← h, Nat.or_comm, ← Uc _ _ h1 h2, Int.natCast_ediv, Int.natCast_emod, Int.natCast_mul, Int.natCast_pow, Int.natCast_pow]
 rfl
theorem Afq (g o n c s : Nat) (R : List Nat) (A : Option Addr) (m d : Nat) (b : List Nat) (B : Nat) (w : World) (hR : Row w g R) (hRw : Ws R) (ho : o + n ≤ R.length) (hbl : b.length = m) (hm : m ≤ 35184372087808) (hn : n ≤ 35184372087808)
  (hB : RW w B A b) (hgB : B ≤ g) (hs : s < 32) :
  Cp 221 #[.slice (some ⟨g, o, none⟩) n c, .slice A m d, .int .i64 s] w (fun e w' => e = .returned (.tuple #[]) ∧ ∃ S, ShrP R o b s n S ∧ Row w' g S ∧ Below g w w') := by
 have hn1 : (n : Int) ≤ 35184372087808 := by omega
 have hs1 : (s : Int) < 32 := by omega
 have hs0 : (0 : Int) ≤ (s : Int) := by omega
 have hB2 := Lh hB
 have HR := Lh hR
 have HSTART := Lh (ShrP.start o b s hRw)
 clear hR
 go_enter Tryz.func221, Tryz.ntmps221
 go_wp2
 go_loopw [9] (fun i wr => ∃ (k : Nat) (S : List Nat), i = .int .i64 k ∧ k ≤ n ∧ Hid (Row wr g S) ∧ Hid (ShrP R o b s k S) ∧ Below g w wr) (fun i _ => n - (intOf i).toNat)
 case atStart => exact ⟨0, R, rfl, Nat.zero_le _, HR, HSTART, Below.refl _ _⟩
 case round =>
  obtain ⟨k, S, rfl, hk, HRS, HS, hbw⟩ := hrel
  by_cases hlt : k < n
  ·have hS := HRS.out.cell (o + k) (by have := HS.out.len; omega)
   have hfz := HRS.out.frozen (o + k)
   have HNX := Lh (HS.out.next hB2.out.1 (by omega) (by have := HS.out.len; omega))
   have HROW := Lh (HRS.out.set (o + k) (Hd b s k))
   have C1 := Lh (fun W (hW : Below g w W) => Cu A m d k b B W hbl (by omega) (hB2.out.below (hW.mono hgB)))
   have C2 := Lh (fun W (hW : Below g w W) => Cu A m d (k + 1) b B W hbl (by omega) (hB2.out.below (hW.mono hgB)))
   have hbd := Ae hbw 1
   have HBS := Lh (show Below g w (wr.setCell ⟨g, o + k, none⟩ (.int .u32 (Hd b s k : Nat))) from hbw.setCell (Nat.le_refl _) _)
   obtain ⟨x, hx⟩ : ∃ x, b.getD k 0 = x := ⟨_, rfl⟩
   rw [hx] at C1
   obtain ⟨y, hy⟩ : ∃ y, b.getD (k + 1) 0 = y := ⟨_, rfl⟩
   rw [hy] at C2
   rw [show ((k + 1 : Nat) : Int) = (k : Int) + 1 by omega] at C2
   have HW := Lh (show ((Hd b s k : Nat) : Int) = bits BinOp.or IntKind.u32 ((x : Int) / 2 ^ s) ((y : Int) * 2 ^ (32 - s) % 4294967296) by
    rw [Abp x y s (by omega) (by rw [← hx]; exact hB2.out.1.getD k)]
    unfold Hd; rw [hx, hy])
   have hkk : (k : Int) < (n : Int) := by omega
   have e1 : IntKind.i64.wrap ((k : Int) + 1) = (k : Int) + 1 := IntWalk.i64_in _ (by omega)
   have e2 : IntKind.i64.wrap (32 - (s : Int)) = 32 - (s : Int) := IntWalk.i64_in _ (by omega)
   have e3 : (0 : Int) ≤ 32 - (s : Int) := by omega
   clear hx hy hB ho hbl hk
   go_wp2
   go_region_with (first
      | (go_at_call 178; (with_reducible refine (C1.out _ ?_).mono ?_); exact hbd; rintro e w' ⟨rfl, rfl⟩)
      | (go_at_call 178; (with_reducible refine (C2.out _ ?_).mono ?_); exact hbd; rintro e w' ⟨rfl, rfl⟩))
   all_goals
    go_wp2_with fail
    rw [← HW.out]
    exact ⟨⟨k + 1, _, by go_num, hlt, HROW, HNX, Ae HBS.out 1⟩, by simp [intOf]; omega⟩
  ·have hkn : k = n := by omega
   subst hkn
   clear hlt hbl
   go_wp2
   go_end0
   exact ⟨rfl, S, HS.out, HRS.out, hbw⟩
theorem Sb (m : Nat) : 4294967296 ^ m = 2 ^ (32 * m) := by rw [Nat.pow_mul]
theorem Adj {B P v t u L : Nat} (e : v = t + B * u) (h1 : t < B) (h2 : P ≤ u) (h3 : u < L) : B * P ≤ v ∧ v < B * L := by
 have a := Nat.mul_le_mul_left B h2
 have b : B * (u + 1) ≤ B * L := Nat.mul_le_mul_left B h3
 rw [Nat.mul_add, Nat.mul_one] at b
 omega
theorem Ev {l : List Nat} (h : Ws l) (h0 : nrm l ≠ []) : 2 ^ (btl l - 1) ≤ val l ∧ val l < 2 ^ btl l ∧ 0 < btl l := by
 have hp : 0 < (nrm l).length := List.length_pos_iff.2 h0
 have hle := Bq l
 have hge := Lo (l := l) h0
 obtain ⟨m, hm⟩ : ∃ m, (nrm l).length = m + 1 := ⟨(nrm l).length - 1, by omega⟩
 have e : val l = val (l.take m) + 4294967296 ^ m * l.getD m 0 := by
  rw [← At, ← hm, ← Hq, Ar]
 have h1 : val (l.take m) < 4294967296 ^ m := by
  have := Dk (h.take m)
  rwa [List.length_take, Nat.min_eq_left (by omega)] at this
 have eb : btl l = 32 * m + Lib.bitLen (l.getD m 0) := by unfold btl; rw [if_neg h0, hm, Nat.add_sub_cancel]
 have hu := h.getD m
 rw [hm, Nat.add_sub_cancel] at hge
 obtain ⟨u, hu0⟩ : ∃ u, l.getD m 0 = u := ⟨_, rfl⟩
 rw [hu0] at e eb hu
 have hz : u ≠ 0 := by intro z; rw [z, Nat.mul_zero] at e; omega
 obtain ⟨b1, b2, b3⟩ := Lib.bitLenAux_bounds 64 u (by omega) hz
 change btl l = 32 * m + Lib.bitLenAux 64 u at eb
 rw [eb]
 generalize Lib.bitLenAux 64 u = L at *
 obtain ⟨c1, c2⟩ := Adj e h1 b2 b3
 rw [Sb, ← Nat.pow_add] at c1 c2
 refine ⟨?_, c2, by omega⟩
 rw [show 32 * m + L - 1 = 32 * m + (L - 1) by omega]
 exact c1
theorem Aa4 {l : List Nat} (h : Ws l) : btl l ≤ 32 * (nrm l).length := by
 unfold btl
 split
 ·omega
 ·next h0 =>
  have hp : 0 < (nrm l).length := List.length_pos_iff.2 h0
  have := F9 _ (h.getD ((nrm l).length - 1))
  omega
theorem Agh {v k : Nat} (hk : 32768 ≤ k) (h : 2 ^ k ≤ v) : Ah v = true := by
 unfold Ah
 refine decide_eq_true ?_
 rcases Nat.lt_or_ge 1024 (wds v).length with h1 | h1
 ·exact h1
 ·have h2 := Gw v
  rw [Sb] at h2
  have h3 : 2 ^ (32 * (wds v).length) ≤ 2 ^ k := Nat.pow_le_pow_right (by omega) (by omega)
  exact absurd (Nat.lt_of_lt_of_le h2 (Nat.le_trans h3 h)) (Nat.lt_irrefl _)
theorem Zx {l : List Nat} {n : Nat} (h : Ws l) (h0 : nrm l ≠ []) (hn : 32768 < btl l + n) : Ah (val l * 2 ^ n) = true := by
 obtain ⟨h1, _, h3⟩ := Ev h h0
 refine Agh (k := btl l - 1 + n) (by omega) ?_
 rw [Nat.pow_add]
 exact Nat.mul_le_mul_right _ h1
theorem ShlP.all {o n s : Nat} {b S : List Nat} (h : ShlP (List.replicate (o + n) 0) o b s n S) (hn : b.length < n) : val S = val b * 2 ^ (32 * o + s) := by
 have hl := h.len
 rw [List.length_replicate] at hl
 have e1 : val S = val (S.take (o + n)) := by rw [List.take_of_length_le (by omega)]
 have e2 : S.take o = (List.replicate (o + n) 0).take o := Co o (by omega) (by rw [List.length_replicate]; omega) (fun j hj => h.far j (Or.inl hj))
 rw [e1, F2 S o n (by omega), h.whole hn, e2, List.take_replicate, Nd, Sb, Nat.zero_add, Nat.pow_add]
 grind
def Qm (v : Nat) (n : Int) (w : World) (e : Ending) (w' : World) : Prop := if Ah v = true then Ck 3 w e w' else if n < 0 then Ck 1 w e w' else NatPost (v * 2 ^ n.toNat) w e w'
theorem Ys (A : Option Addr) (n c : Nat) (p : Int) (l : List Nat) (w : World) (hn : l.length = n) (hc : n ≤ c) (hm : n ≤ 35184372088832) (h : RW w w.heap.size A l) (hl : Ah (val l) = true) :
  Cp 201 #[.slice A n c, .int .i64 p] w (Ck 3 w) := by
 have c1 := Ak A n c l w.heap.size w hn hc hm h
 have hle := Bq l
 obtain ⟨N, hN⟩ : ∃ N, (nrm l).length = N := ⟨_, rfl⟩
 rw [hN] at c1 hle
 have c2 := Cr A N N (nrm l) w hN (Nat.le_refl _) (by omega) h.nrm
 rw [Ar, hl] at c2
 have HP := Lh (show Below w.heap.size w (lone w (.slice A N N)) from (Below.refl _ _).alloc (Nat.le_refl _) _)
 clear hn hc hm h hl hle hN
 go_enter Tryz.func201, Tryz.ntmps201
 go_wp2_with fail
 refine c1.mono ?_
 rintro e w1 ⟨rfl, rfl⟩
 go_wp2_with fail
 refine c2.mono ?_
 rintro e w1 ⟨rfl, rfl⟩
 go_wp2
 go_ret2
 exact ⟨rfl, HP.out⟩
theorem Adl (A : Option Addr) (n c : Nat) (p : Int) (l : List Nat) (w : World) (hn : l.length = n) (hc : n ≤ c) (hm : n ≤ 35184372088832) (h : RW w w.heap.size A l) (hl : Ah (val l) = false) (hp : p < 0) :
  Cp 201 #[.slice A n c, .int .i64 p] w (Ck 1 w) := by
 have c1 := Ak A n c l w.heap.size w hn hc hm h
 have hle := Bq l
 obtain ⟨N, hN⟩ : ∃ N, (nrm l).length = N := ⟨_, rfl⟩
 rw [hN] at c1 hle
 have c2 := Cr A N N (nrm l) w hN (Nat.le_refl _) (by omega) h.nrm
 rw [Ar, hl] at c2
 have HP := Lh (show Below w.heap.size w (lone w (.slice A N N)) from (Below.refl _ _).alloc (Nat.le_refl _) _)
 clear hn hc hm h hl hle hN
 go_enter Tryz.func201, Tryz.ntmps201
 go_wp2_with fail
 refine c1.mono ?_
 rintro e w1 ⟨rfl, rfl⟩
 go_wp2_with fail
 refine c2.mono ?_
 rintro e w1 ⟨rfl, rfl⟩
 go_wp2
 go_ret2
 exact ⟨rfl, HP.out⟩
theorem Yn (A : Option Addr) (n c : Nat) (p : Int) (l : List Nat) (w : World) (hn : l.length = n) (hc : n ≤ c) (hm : n ≤ 35184372088832) (h : RW w w.heap.size A l) (hp : 0 ≤ p) (h0 : nrm l = []) :
  Cp 201 #[.slice A n c, .int .i64 p] w (NatPost 0 w) := by
 have c1 := Ak A n c l w.heap.size w hn hc hm h
 rw [h0] at c1
 have c2 := Cr A 0 0 [] w rfl (Nat.le_refl _) (by omega) (RW.nil _ _ _)
 rw [show Ah (val []) = false from Dv (by simp [val])] at c2
 have HP := Lh (show Below w.heap.size w (lone w (.slice A 0 0)) from (Below.refl _ _).alloc (Nat.le_refl _) _)
 have hp1 : ¬ p < 0 := by omega
 clear hn hc hm h h0
 go_enter Tryz.func201, Tryz.ntmps201
 go_wp2_with fail
 refine c1.mono ?_
 rintro e w1 ⟨rfl, rfl⟩
 go_wp2_with fail
 refine c2.mono ?_
 rintro e w1 ⟨rfl, rfl⟩
 go_wp2
 go_ret2
 exact NatPost.ok (Dv (by omega)) rfl (Nat.le_refl _) (RW.nil _ _ _) HP.out
theorem Ado (A : Option Addr) (n c : Nat) (p : Int) (l : List Nat) (w : World) (hn : l.length = n) (hc : n ≤ c) (hm : n ≤ 35184372088832) (h : RW w w.heap.size A l) (hl : Ah (val l) = false) (hp : 0 ≤ p) (h0 : nrm l ≠ []) (hf : 32768 < (btl (nrm l) : Int) + p) :
  Cp 201 #[.slice A n c, .int .i64 p] w (fun e w' => e = .returned (.tuple #[.slice none 0 0, .int .i64 3]) ∧ Below w.heap.size w w') := by
 have c1 := Ak A n c l w.heap.size w hn hc hm h
 have n1 := Da h.1 hl
 have hpos : 0 < (nrm l).length := List.length_pos_iff.2 h0
 obtain ⟨N, hN⟩ : ∃ N, (nrm l).length = N := ⟨_, rfl⟩
 rw [hN] at c1 n1 hpos
 have c2 := Cr A N N (nrm l) w hN (Nat.le_refl _) (by omega) h.nrm
 rw [Ar, hl] at c2
 have hp2 : Below w.heap.size w (lone w (.slice A N N)) := (Below.refl _ _).alloc (Nat.le_refl _) _
 have c3 := Eu A N N (nrm l) w.heap.size _ hN (Nat.le_refl _) (by omega) (h.nrm.below hp2)
 have hb := Aa4 h.1.nrm
 rw [D2, hN] at hb
 obtain ⟨q, hq⟩ : ∃ q, btl (nrm l) = q := ⟨_, rfl⟩
 rw [hq] at c3 hf hb
 have HP := Lh hp2
 have hp1 : ¬ p < 0 := by omega
 have hN0 : (0 : Int) < (N : Int) := by omega
 have hqq : (q : Int) ≤ 32768 := by omega
 have e1 : IntKind.i64.wrap (32768 - (q : Int)) = 32768 - (q : Int) := IntWalk.i64_in _ (by omega)
 have e2 : 32768 - (q : Int) < p := by omega
 clear hn hc hm h hl hN h0 hp2 hq hpos n1 hb hf
 go_enter Tryz.func201, Tryz.ntmps201
 go_wp2_with fail
 refine c1.mono ?_
 rintro e w1 ⟨rfl, rfl⟩
 go_wp2_with fail
 refine c2.mono ?_
 rintro e w1 ⟨rfl, rfl⟩
 go_wp2_with fail
 refine c3.mono ?_
 rintro e w1 ⟨rfl, rfl⟩
 go_wp2
 go_ret2
 exact ⟨rfl, HP.out⟩
theorem Aff (A : Option Addr) (n c : Nat) (p o s : Nat) (l : List Nat) (w : World) (hn : l.length = n) (hc : n ≤ c) (hm : n ≤ 35184372088832) (h : RW w w.heap.size A l) (hl : Ah (val l) = false) (h0 : nrm l ≠ []) (hf : btl (nrm l) + p ≤ 32768)
  (hpo : p = 32 * o + s) (hs : s < 32) :
  Cp 201 #[.slice A n c, .int .i64 p] w (NatPost (val l * 2 ^ p) w) := by
 have c1 := Ak A n c l w.heap.size w hn hc hm h
 have n1 := Da h.1 hl
 have hpos : 0 < (nrm l).length := List.length_pos_iff.2 h0
 obtain ⟨N, hN⟩ : ∃ N, (nrm l).length = N := ⟨_, rfl⟩
 rw [hN] at c1 n1 hpos
 have c2 := Cr A N N (nrm l) w hN (Nat.le_refl _) (by omega) h.nrm
 rw [Ar, hl] at c2
 have hp2 : Below w.heap.size w (lone w (.slice A N N)) := (Below.refl _ _).alloc (Nat.le_refl _) _
 have c3 := Eu A N N (nrm l) w.heap.size _ hN (Nat.le_refl _) (by omega) (h.nrm.below hp2)
 rw [← Ar l]
 have hA := h.nrm.below hp2
 obtain ⟨W, hW⟩ : ∃ W, lone w (.slice A N N) = W := ⟨_, rfl⟩
 rw [hW] at c2 c3 hp2 hA
 have hmk := run_make_row' (P := Tryz.prog) 121 129 (.int .u32 0) 4 Tryz.underlying121 F6 rfl .i64 .i64 (o + N + 1) (by omega) (by omega) W
 rw [show ((o + N + 1 : Nat) : Int) = (o : Int) + (N : Int) + 1 by omega] at hmk
 have hrow := Row.made W (o + N + 1)
 have hgW := hp2.size
 have hbl0 : Below w.heap.size w (W.alloc (.cells (madeCells #[.int .u32 0] (o + N + 1)) 129)) := hp2.alloc hp2.size _
 have hbl1 : Below w.heap.size W (W.alloc (.cells (madeCells #[.int .u32 0] (o + N + 1)) 129)) := (Below.refl _ _).alloc hp2.size _
 have C4 := Lh (O0 W.heap.size o (N + 1) (N + 1) s (List.replicate (o + (N + 1)) 0) A N N (nrm l) w.heap.size _ hrow (Ws.zeros _) (by rw [List.length_replicate]; exact Nat.le_refl _) hN (by omega) (by omega) (hA.below hbl1) hgW hs)
 have C5 := Lh (fun (S : List Nat) (W2 : World) (hS : ShlP (List.replicate (o + (N + 1)) 0) o (nrm l) s (N + 1) S) (hr : Row W2 W.heap.size S) =>
  show Cp 175 #[.slice (some ⟨W.heap.size, 0, none⟩) (o + N + 1) (o + N + 1)] W2 (NatPost (val (nrm l) * 2 ^ (32 * o + s)) W2) from by
   have hlen : S.length = o + N + 1 := by rw [hS.len, List.length_replicate]; omega
   have := Et (some ⟨W.heap.size, 0, none⟩) (o + N + 1) (o + N + 1) S W2 hlen (Nat.le_refl _) (by omega) ((hr.rw0 hS.ws).more hr.lt)
   rw [hS.all (by omega)] at this
   exact this)
 have HW := Lh hW
 obtain ⟨q, hq⟩ : ∃ q, btl (nrm l) = q := ⟨_, rfl⟩
 rw [hq] at c3 hf
 obtain ⟨v, hv⟩ : ∃ v, val (nrm l) * 2 ^ p = v := ⟨_, rfl⟩
 rw [hv]
 rw [← hpo, hv] at C5
 have HBL := Lh hbl0
 have hN0 : (0 : Int) < (N : Int) := by omega
 have hN1 : (N : Int) ≤ 1024 := by omega
 have ho1 : (o : Int) ≤ 1024 := by omega
 have e1 : IntKind.i64.wrap (32768 - (q : Int)) = 32768 - (q : Int) := IntWalk.i64_in _ (by omega)
 have e2 : (p : Int) ≤ 32768 - (q : Int) := by omega
 have e3 : (p : Int) / 32 = (o : Int) := by omega
 have e4 : (p : Int) % 32 = (s : Int) := by omega
 clear hn hc hm h hl hN h0 hp2 hq hpos n1 hf hpo hrow hbl0 hbl1 hs hW hA hv
 go_enter Tryz.func201, Tryz.ntmps201
 go_wp2_with fail
 refine c1.mono ?_
 rintro e w1 ⟨rfl, rfl⟩
 go_wp2_with fail
 rw [show w.alloc (.cells #[.slice A N N] 121) = W from HW.out]
 refine c2.mono ?_
 rintro e w1 ⟨rfl, rfl⟩
 go_wp2_with fail
 refine c3.mono ?_
 rintro e w1 ⟨rfl, rfl⟩
 clear c1 c2 c3
 go_wp2_with fail
 rw [show o + N + 1 - o = N + 1 by omega]
 refine C4.out.mono ?_
 rintro e w4 ⟨rfl, S, hS, hr, hb⟩
 have D5 := Lh (C5.out S w4 hS hr)
 have HB4 := Lh (HBL.out.trans (hb.mono hgW))
 clear hS hr hb C4 C5
 go_wp2_with fail
 refine D5.out.mono ?_
 rintro e w5 hx
 obtain ⟨A5, n5, c5, k5, rfl, h3, h4⟩ := NatPost.from_ HB4.out hx
 have H3 := Lh h3
 have H4 := Lh h4
 clear h3 h4 hx D5
 go_wp2
 go_ret2
 exact ⟨A5, n5, c5, k5, rfl, H3.out, H4.out⟩
theorem Qa (l : List Nat) (o : Nat) (ho : o ≤ l.length) : val l = val (l.take o) + 4294967296 ^ o * val (l.drop o) := by
 have h := F2 l o (l.length - o) ho
 rw [show o + (l.length - o) = l.length by omega, List.take_length, List.take_of_length_le (l := l.drop o) (by rw [List.length_drop]; omega)] at h
 exact h
theorem Vd {l : List Nat} (h : Ws l) (o : Nat) (ho : o ≤ l.length) : val (l.take o) < 4294967296 ^ o := by
 have := Dk (h.take o)
 rwa [List.length_take, Nat.min_eq_left ho] at this
theorem Sg {l : List Nat} (h : Ws l) (o s : Nat) (ho : o ≤ l.length) : val l / 2 ^ (32 * o + s) = val (l.drop o) / 2 ^ s := by
 have h1 := Vd h o ho
 rw [Nat.pow_add, ← Sb, ← Nat.div_div_eq_div_mul, Qa l o ho, Nat.add_mul_div_left _ _ (Nat.pow_pos (by omega)), Nat.div_eq_of_lt h1, Nat.zero_add]
theorem Yk {B T D P : Nat} (hT : T < B) (hP : 0 < P) : (T + B * D) % (B * P) = T + B * (D % P) := by
 have e : T + B * D = (T + B * (D % P)) + B * P * (D / P) := by
  have := Nat.div_add_mod D P
  have e2 : B * (P * (D / P) + D % P) = B * D := by rw [this]
  grind
 rw [e, Nat.add_mul_mod_self_left]
 refine Nat.mod_eq_of_lt ?_
 have h1 : B * (D % P + 1) ≤ B * P := Nat.mul_le_mul_left _ (Nat.mod_lt _ hP)
 rw [Nat.mul_add, Nat.mul_one] at h1
 omega
theorem Aas {l : List Nat} {s : Nat} (hs : s ≤ 32) : val l % 2 ^ s = l.getD 0 0 % 2 ^ s := by
 cases l with
 | nil => simp [val]
 | cons x r =>
  simp only [val, List.getD_cons_zero]
  rw [← Ep hs, Nat.mul_assoc, Nat.add_mul_mod_self_left]
theorem Pu {l : List Nat} (h : Ws l) (o s : Nat) (ho : o ≤ l.length) (hs : s ≤ 32) : val l % 2 ^ (32 * o + s) = val (l.take o) + 4294967296 ^ o * (l.getD o 0 % 2 ^ s) := by
 rw [Nat.pow_add, ← Sb]
 conv => lhs; rw [Qa l o ho]
 rw [Yk (Vd h o ho) (Nat.two_pow_pos s), Aas hs, Dt, Nat.add_zero]
theorem U1 {l : List Nat} {k : Nat} (h : ∀ j, j < k → l.getD j 0 = 0) : val (l.take k) = 0 := Nv fun j => by
 rcases Nat.lt_or_ge j k with hj | hj
 ·rw [M5 hj]; exact h j hj
 ·rw [List.getD_eq_getElem?_getD, List.getElem?_take, if_neg (by omega)]; rfl
theorem Sz {l : List Nat} (h : Ws l) (o s k : Nat) (ho : o ≤ l.length) (hs : s ≤ 32) (hk : k < o) (hx : l.getD k 0 ≠ 0) : decide (val l % 2 ^ (32 * o + s) ≠ 0) = true := by
 refine decide_eq_true ?_
 rw [Pu h o s ho hs]
 have e : val (l.take o) ≠ 0 := by
  intro z
  have h1 := Bx z
  have h2 := F2 l k (o - k) (by omega)
  rw [show k + (o - k) = o by omega, z] at h2
  have h3 := Au l k 0 (by omega)
  have h4 : val ((l.drop k).take (o - k)) = 0 := by
   have hp : 0 < 4294967296 ^ k := Nat.pow_pos (by omega)
   rcases Nat.eq_zero_or_pos (val ((l.drop k).take (o - k))) with h5 | h5
   ·exact h5
   ·have := Nat.mul_pos hp h5; omega
  obtain ⟨m, hm⟩ : ∃ m, o - k = m + 1 := ⟨o - k - 1, by omega⟩
  rw [hm] at h4
  have h6 := List.getD_eq_getElem?_getD (l := (l.drop k).take (m + 1)) (i := 0) (a := 0)
  have h7 : ((l.drop k).take (m + 1)).getD 0 0 = l.getD k 0 := by rw [M5 (by omega), Dt, Nat.add_zero]
  cases hc : (l.drop k).take (m + 1) with
  | nil => rw [hc] at h7; simp at h7; exact hx h7.symm
  | cons x r =>
   rw [hc] at h4 h7
   simp only [val] at h4
   simp only [List.getD_cons_zero] at h7
   omega
 omega
theorem X6 {l : List Nat} (h : Ws l) (o s : Nat) (ho : o ≤ l.length) (hs : s ≤ 32) (hz : ∀ j, j < o → l.getD j 0 = 0) : decide (val l % 2 ^ (32 * o + s) ≠ 0) = decide (l.getD o 0 * 2 ^ (32 - s) % 4294967296 ≠ 0) := by
 rw [Pu h o s ho hs, U1 hz, Nat.zero_add]
 have h1 := E6 (l.getD o 0) (32 - s) (by omega)
 rw [show 32 - (32 - s) = s by omega] at h1
 rw [h1]
 have hp : 0 < 4294967296 ^ o := Nat.pow_pos (by omega)
 have hq : 0 < 2 ^ (32 - s) := Nat.two_pow_pos _
 refine decide_eq_decide.2 ?_
 constructor
 ·intro a b
  rcases Nat.mul_eq_zero.1 b with b | b
  ·omega
  ·rw [b, Nat.mul_zero] at a; exact a rfl
 ·intro a b
  rcases Nat.mul_eq_zero.1 b with b | b
  ·omega
  ·rw [b, Nat.mul_zero] at a; exact a rfl
theorem RW.drop {w : World} {B b off : Nat} {l : List Nat} (h : RW w B (some ⟨b, off, none⟩) l) (o : Nat) (ho : o < l.length) : RW w B (some ⟨b, off + o, none⟩) (l.drop o) := ⟨h.1.drop o, fun _ => by
 obtain ⟨b2, off2, he, hb, hc⟩ := h.2 (by omega)
 cases he
 refine ⟨b, off + o, rfl, hb, fun k u hu => ?_⟩
 rw [List.getElem?_drop] at hu
 rw [show off + o + k = off + (o + k) by omega]
 exact hc _ u hu⟩
theorem Ahk (x t : Nat) : (((x : Int) * 2 ^ t % 4294967296) != 0) = decide (x * 2 ^ t % 4294967296 ≠ 0) := by
 have e : ((x : Int) * 2 ^ t % 4294967296) = ((x * 2 ^ t % 4294967296 : Nat) : Int) := by rw [Int.natCast_emod, Int.natCast_mul, Int.natCast_pow]; rfl
 rw [e]
 by_cases h : x * 2 ^ t % 4294967296 = 0
 ·rw [h]; rfl
 ·rw [decide_eq_true h]
  simp only [bne_iff_ne, ne_eq]
  omega
theorem Y1 (b off n c p o s : Nat) (l : List Nat) (B : Nat) (w : World) (hn : l.length = n) (hc : n ≤ c) (hm : n ≤ 35184372087808) (h : RW w B (some ⟨b, off, none⟩) l) (hpo : p = 32 * o + s) (hs : s < 32) (ho : o < n) :
  Cq 222 #[.slice (some ⟨b, off, none⟩) n c, .int .i64 p] (.bool (decide (val l % 2 ^ p ≠ 0))) w := by
 have hcell : ∀ k u : Nat, l[k]? = some u → w.cell? ⟨b, off + k, none⟩ = some (.int .u32 (u : Int)) := by
  obtain ⟨b2, off2, he, _, hc2⟩ := h.2 (by omega)
  cases he
  exact hc2
 have hcl := hcell o _ (Ba (by omega))
 have HE := Lh (fun k hk hx => Sz (k := k) h.1 o s (by omega) (by omega) hk hx)
 have HL := Lh (fun hz => X6 h.1 o s (by omega) (by omega) hz)
 rw [← hpo] at HE HL
 have HCELL := Lh hcell
 have HN := Lh hn
 have ho1 : (o : Int) < (n : Int) := by omega
 have hn1 : (n : Int) ≤ 35184372087808 := by omega
 have hc1 : (n : Int) ≤ (c : Int) := by omega
 have hoc : o ≤ c := by omega
 have e3 : (p : Int) / 32 = (o : Int) := by omega
 have e4 : (p : Int) % 32 = (s : Int) := by omega
 have p0 : (0 : Int) ≤ (p : Int) := by omega
 have hs1 : (s : Int) < 32 := by omega
 have hs0 : (0 : Int) ≤ (s : Int) := by omega
 have e2 : IntKind.i64.wrap (32 - (s : Int)) = 32 - (s : Int) := IntWalk.i64_in _ (by omega)
 have e5 : (0 : Int) ≤ 32 - (s : Int) := by omega
 obtain ⟨x, hx⟩ : ∃ x, l.getD o 0 = x := ⟨_, rfl⟩
 rw [hx] at HL hcl
 clear hn hc hm h hpo hs hcell hx
 go_enter Tryz.func222, Tryz.ntmps222
 go_wp2
 go_loopw [12] (fun i wr => ∃ (k : Nat), i = .int .i64 k ∧ k ≤ o ∧ Hid (∀ j, j < k → l.getD j 0 = 0) ∧ w = wr) (fun i _ => o - (intOf i).toNat)
 case atStart => exact ⟨0, rfl, Nat.zero_le _, Lh (fun j hj => by omega), rfl⟩
 case round =>
  obtain ⟨k, rfl, hk, HZ, rfl⟩ := hrel
  by_cases hlt : k < o
  ·have hck := HCELL.out k _ (Ba (by rw [HN.out]; omega))
   obtain ⟨y, hy⟩ : ∃ y, l.getD k 0 = y := ⟨_, rfl⟩
   rw [hy] at hck
   have hkk : (k : Int) < (o : Int) := by omega
   by_cases h0 : y = 0
   ·subst h0
    have HZ2 := Lh (show ∀ j, j < k + 1 → l.getD j 0 = 0 from fun j hj => by
     rcases Nat.lt_or_ge j k with h1 | h1
     ·exact HZ.out j h1
     ·rw [show j = k by omega]; exact hy)
    clear hy
    go_wp2
    go_roundw
    case rel => exact ⟨k + 1, by go_num, by omega, HZ2, trivial⟩
    case measure => simp [intOf]; omega
   ·have HF := Lh (HE.out k hlt (by rw [hy]; exact h0))
    have hyn : ((y : Int) == 0) = false := by simp; omega
    have hyn2 : ¬ (y : Int) = 0 := by omega
    clear hy
    go_wp2
    go_ret
    exact ⟨Fw HF.out.symm, rfl⟩
  ·have hko : k = o := by omega
   subst hko
   have HF := Lh (HL.out HZ.out)
   clear hlt hk
   go_wp2
   go_ret
   exact ⟨Fw (by rw [HF.out, ← Ahk]), rfl⟩
def ShrQ (v q : Nat) (w : World) (e : Ending) (w' : World) : Prop :=
 ∃ A n c, e = .returned (.tuple #[.slice A n c, .bool (decide (v % 2 ^ q ≠ 0))]) ∧ n = (wds (v / 2 ^ q)).length ∧ n ≤ c ∧ RW w' w'.heap.size A (wds (v / 2 ^ q)) ∧ Below w.heap.size w w'
theorem ShrQ.same {v : Nat} {w w' : World} {A : Option Addr} {n c : Nat} (hn : n = (wds v).length) (hc : n ≤ c) (hr : RW w' w'.heap.size A (wds v)) (hb : Below w.heap.size w w') : ShrQ v 0 w (.returned (.tuple #[.slice A n c, .bool false])) w' :=
 ⟨A, n, c, by simp [Nat.mod_one], by simpa using hn, hc, by simpa using hr, hb⟩
theorem ShrQ.none {v q : Nat} {w w' : World} {b : Bool} (hv : v < 2 ^ q) (hb : b = decide (v ≠ 0)) (hw : Below w.heap.size w w') : ShrQ v q w (.returned (.tuple #[.slice none 0 0, .bool b])) w' :=
 ⟨Option.none, 0, 0, by rw [Nat.mod_eq_of_lt hv, hb], by rw [Nat.div_eq_of_lt hv]; rfl, Nat.le_refl _, by rw [Nat.div_eq_of_lt hv]; exact RW.nil _ _ _, hw⟩
theorem Ac4 (A : Option Addr) (n c : Nat) (p : Int) (l : List Nat) (w : World) (hn : l.length = n) (hc : n ≤ c) (hm : n ≤ 35184372087808) (h : RW w w.heap.size A l) (hp : p ≤ 0) :
  Cp 177 #[.slice A n c, .int .i64 p] w (ShrQ (val l) 0 w) := by
 have c1 := Ak A n c l w.heap.size w hn hc (by omega) h
 have hle := Bq l
 obtain ⟨N, hN⟩ : ∃ N, (nrm l).length = N := ⟨_, rfl⟩
 rw [hN] at c1 hle
 have c2 := (Po A N N (nrm l) w hN (Nat.le_refl _) (by omega) h.nrm).mono fun _ _ x => SlPost.of h.1.nrm.nrm x
 rw [D2, Cb h.1] at c2
 clear hn hc hm h hle hN
 go_enter Tryz.func177, Tryz.ntmps177
 go_wp2_with fail
 refine c1.mono ?_
 rintro e w1 ⟨rfl, rfl⟩
 go_wp2_with fail
 refine c2.mono ?_
 rintro e w1 ⟨v1, rfl, ⟨A1, d1, rfl, hd, hr⟩, hb⟩
 have HD := Lh hd
 have HR := Lh hr
 have HB := Lh hb
 clear hd hr hb
 go_wp2
 go_ret2
 exact ShrQ.same rfl HD.out HR.out HB.out
theorem Aar (A : Option Addr) (n c p : Nat) (l : List Nat) (w : World) (hn : l.length = n) (hc : n ≤ c) (hm : n ≤ 35184372087808) (h : RW w w.heap.size A l) (hp : 0 < p) (hf : btl (nrm l) ≤ p) :
  Cp 177 #[.slice A n c, .int .i64 p] w (ShrQ (val l) p w) := by
 have c1 := Ak A n c l w.heap.size w hn hc (by omega) h
 have hle := Bq l
 have HV := Lh (show val l < 2 ^ p by
  by_cases h0 : nrm l = []
  ·rw [← Ar l, h0]; exact Nat.two_pow_pos p
  ·have := (Ev h.1.nrm (by rw [D2]; exact h0)).2.1
   rw [Ar] at this
   exact Nat.lt_of_lt_of_le this (Nat.pow_le_pow_right (by omega) hf))
 have hz : (val l ≠ 0) ↔ 0 < (nrm l).length := by
  constructor
  ·intro a
   refine List.length_pos_iff.2 fun e => a ?_
   rw [← Ar l, e]; rfl
  ·intro a e
   rw [Bx e] at a
   exact absurd a (by simp)
 obtain ⟨N, hN⟩ : ∃ N, (nrm l).length = N := ⟨_, rfl⟩
 rw [hN] at c1 hle hz
 have HZ := Lh hz
 have c2 := Eu A N N (nrm l) w.heap.size w hN (Nat.le_refl _) (by omega) h.nrm
 have hp1 : ¬ (p : Int) ≤ 0 := by omega
 obtain ⟨t, ht⟩ : ∃ t, btl (nrm l) = t := ⟨_, rfl⟩
 rw [ht] at c2 hf
 have hf1 : (t : Int) ≤ (p : Int) := by omega
 clear hn hc hm h hle hN hz hp hf ht
 go_enter Tryz.func177, Tryz.ntmps177
 go_wp2_with fail
 refine c1.mono ?_
 rintro e w1 ⟨rfl, rfl⟩
 go_wp2_with fail
 refine c2.mono ?_
 rintro e w1 ⟨rfl, rfl⟩
 go_wp2
 go_ret2
 exact ShrQ.none HV.out (decide_eq_decide.2 HZ.out.symm) (Below.refl _ _)
theorem Aba (A : Option Addr) (n c p o s : Nat) (l : List Nat) (w : World) (hn : l.length = n) (hc : n ≤ c) (hm : n ≤ 35184372087808) (h : RW w w.heap.size A l) (hp : 0 < p) (hf : p < btl (nrm l)) (hpo : p = 32 * o + s) (hs : s < 32) :
  Cp 177 #[.slice A n c, .int .i64 p] w (ShrQ (val l) p w) := by
 have c1 := Ak A n c l w.heap.size w hn hc (by omega) h
 have hle := Bq l
 have hbt := Aa4 h.1.nrm
 rw [D2] at hbt
 obtain ⟨N, hN⟩ : ∃ N, (nrm l).length = N := ⟨_, rfl⟩
 rw [hN] at c1 hle hbt
 have hoN : o < N := by omega
 obtain ⟨b, off, rfl, _, _⟩ := h.2 (by omega)
 have hA := h.nrm
 have c2 := Eu (some ⟨b, off, none⟩) N N (nrm l) w.heap.size w hN (Nat.le_refl _) (by omega) hA
 obtain ⟨a, ha⟩ : ∃ a, nrm l = a := ⟨_, rfl⟩
 rw [← Ar l]
 rw [ha] at c2 hN hA hf ⊢
 have hmk := run_make_row' (P := Tryz.prog) 121 129 (.int .u32 0) 4 Tryz.underlying121 F6 rfl .i64 .i64 (N - o) (by omega) (by omega) w
 rw [show ((N - o : Nat) : Int) = (N : Int) - (o : Int) by omega] at hmk
 have hrow := Row.made w (N - o)
 have hbl0 : Below w.heap.size w (w.alloc (.cells (madeCells #[.int .u32 0] (N - o)) 129)) := (Below.refl _ _).alloc (Nat.le_refl _) _
 have C4 := Lh (Afq w.heap.size 0 (N - o) (N - o) s (List.replicate (N - o) 0) (some ⟨b, off + o, none⟩) (N - o) (N - o) (a.drop o) w.heap.size _ hrow (Ws.zeros _) (by rw [List.length_replicate]; omega) (by rw [List.length_drop, hN]) (by omega) (by omega) ((hA.drop o (by omega)).below hbl0) (Nat.le_refl _) hs)
 have C5 := Lh (fun (W2 : World) (hb : Below w.heap.size w W2) => Y1 b off N N p o s a w.heap.size W2 hN (Nat.le_refl _) (by omega) (hA.below hb) hpo hs hoN)
 have C6 := Lh (fun (S : List Nat) (W2 : World) (hS : ShrP (List.replicate (N - o) 0) 0 (a.drop o) s (N - o) S) (hr : Row W2 w.heap.size S) =>
  show Cp 218 #[.slice (some ⟨w.heap.size, 0, none⟩) (N - o) (N - o)] W2 (fun e w' => e = .returned (.slice (some ⟨w.heap.size, 0, none⟩) (wds (val a / 2 ^ p)).length (wds (val a / 2 ^ p)).length) ∧ W2 = w') from by
   have hlen : S.length = N - o := by rw [hS.len, List.length_replicate]
   have hv : val S = val a / 2 ^ p := by
    have := hS.whole (by rw [List.length_drop, hN]; exact Nat.le_refl _)
    rw [List.drop_zero, List.take_of_length_le (by omega)] at this
    rw [this, hpo, Sg hA.1 o s (by omega)]
   have := Ak (some ⟨w.heap.size, 0, none⟩) (N - o) (N - o) S (w.heap.size + 1) W2 hlen (Nat.le_refl _) (by omega) (hr.rw0 hS.ws)
   rw [Cb hS.ws, hv] at this
   exact this)
 have C7 := Lh (fun (S : List Nat) (W2 : World) (hS : ShrP (List.replicate (N - o) 0) 0 (a.drop o) s (N - o) S) (hr : Row W2 w.heap.size S) =>
  show RW W2 W2.heap.size (some ⟨w.heap.size, 0, none⟩) (wds (val a / 2 ^ p)) from by
   have hlen : S.length = N - o := by rw [hS.len, List.length_replicate]
   have hv : val S = val a / 2 ^ p := by
    have := hS.whole (by rw [List.length_drop, hN]; exact Nat.le_refl _)
    rw [List.drop_zero, List.take_of_length_le (by omega)] at this
    rw [this, hpo, Sg hA.1 o s (by omega)]
   have := ((hr.rw0 hS.ws).nrm).more hr.lt
   rw [Cb hS.ws, hv] at this
   exact this)
 obtain ⟨t, ht⟩ : ∃ t, btl a = t := ⟨_, rfl⟩
 rw [ht] at c2 hf
 obtain ⟨M, hM⟩ : ∃ M, (wds (val a / 2 ^ p)).length = M := ⟨_, rfl⟩
 rw [hM] at C6
 obtain ⟨lo, hlo⟩ : ∃ lo, decide (val a % 2 ^ p ≠ 0) = lo := ⟨_, rfl⟩
 rw [hlo] at C5
 have HM := Lh hM
 have HLO := Lh hlo
 have HBL := Lh hbl0
 have hp1 : ¬ (p : Int) ≤ 0 := by omega
 have hf1 : ¬ (t : Int) ≤ (p : Int) := by omega
 have hoN1 : (o : Int) < (N : Int) := by omega
 have hN1 : (N : Int) ≤ 35184372087808 := by omega
 have e3 : (p : Int) / 32 = (o : Int) := by omega
 have e4 : (p : Int) % 32 = (s : Int) := by omega
 clear hn hc hm h hle hN hp hf hpo hs hrow hbl0 hA ha hbt ht hM hlo
 go_enter Tryz.func177, Tryz.ntmps177
 go_wp2_with fail
 refine c1.mono ?_
 rintro e w1 ⟨rfl, rfl⟩
 go_wp2_with fail
 refine c2.mono ?_
 rintro e w1 ⟨rfl, rfl⟩
 clear c1 c2
 go_wp2_with fail
 refine C4.out.mono ?_
 rintro e w4 ⟨rfl, S, hS, hr, hb⟩
 have D6 := Lh (C6.out S w4 hS hr)
 have D7 := Lh (C7.out S w4 hS hr)
 have HB4 := Lh (HBL.out.trans hb)
 have D5 := Lh (C5.out w4 HB4.out)
 clear hS hr hb C4 C5 C6 C7
 go_wp2_with fail
 refine D6.out.mono ?_
 rintro e w5 ⟨rfl, rfl⟩
 go_wp2_with fail
 refine D5.out.mono ?_
 rintro e w5 ⟨rfl, rfl⟩
 go_wp2
 go_ret2
 exact ⟨some ⟨w.heap.size, 0, none⟩, M, M, by rw [HLO.out]; rfl, HM.out.symm, Nat.le_refl _, D7.out, HB4.out⟩
theorem Abf (A : Option Addr) (n c : Nat) (p : Int) (l : List Nat) (w : World) (hn : l.length = n) (hc : n ≤ c) (hm : n ≤ 35184372087808) (h : RW w w.heap.size A l) :
  Cp 177 #[.slice A n c, .int .i64 p] w (ShrQ (val l) p.toNat w) := by
 by_cases hp : p ≤ 0
 ·rw [show p.toNat = 0 by omega]
  exact Ac4 A n c p l w hn hc hm h hp
 ·obtain ⟨q, rfl⟩ : ∃ q : Nat, p = (q : Int) := ⟨p.toNat, by omega⟩
  rw [Int.toNat_natCast]
  by_cases hf : btl (nrm l) ≤ q
  ·exact Aar A n c q l w hn hc hm h (by omega) hf
  ·exact Aba A n c q (q / 32) (q % 32) l w hn hc hm h (by omega) (by omega) (by omega) (by omega)
structure TakeT (R : List Nat) (o : Nat) (b : List Nat) (x k : Nat) (S : List Nat) (q : Nat) : Prop where
 len : S.length = R.length
 ws : Ws S
 far : ∀ j, j < o ∨ o + k ≤ j → S.getD j 0 = R.getD j 0
 sum : val ((S.drop o).take k) + x * val (b.take k) = val ((R.drop o).take k) + 4294967296 ^ k * q
 low : q < 4294967296
theorem TakeT.start {R : List Nat} (o : Nat) (b : List Nat) (x : Nat) (hR : Ws R) : TakeT R o b x 0 R 0 := ⟨rfl, hR, fun _ _ => rfl, by simp [val], by omega⟩
def G9 (b : List Nat) (x k q : Nat) : Nat := q + b.getD k 0 * x
def Oz (r t : Nat) : Nat := (r + 4294967296 * 2 - t % 4294967296 - 0) % 4294967296
def Nl (r t : Nat) : Nat := if r < t % 4294967296 + 0 then 1 else 0
theorem Wc {b : List Nat} {x k q : Nat} (hb : Ws b) (hx : x < 4294967296) (hq : q < 4294967296) : b.getD k 0 * x ≤ 18446744065119617025 ∧ G9 b x k q ≤ 18446744069414584320 := by
 have h1 := hb.getD k
 have h3 : b.getD k 0 * x ≤ 4294967295 * 4294967295 := Nat.mul_le_mul (by omega) (by omega)
 unfold G9
 omega
theorem Ac7 (r t : Nat) (hr : r < 4294967296) : Oz r t + t = r + 4294967296 * (t / 4294967296 + Nl r t) := by
 unfold Oz Nl
 split <;> omega
theorem V0 (r t : Nat) (ht : t ≤ 18446744069414584320) : t / 4294967296 + Nl r t < 4294967296 := by
 unfold Nl
 split <;> omega
theorem TakeT.next {R : List Nat} {o : Nat} {b : List Nat} {x k : Nat} {S : List Nat} {q : Nat} (h : TakeT R o b x k S q) (hR : Ws R) (hb : Ws b) (hx : x < 4294967296) (ho : o + k < R.length) :
  S.getD (o + k) 0 = R.getD (o + k) 0 ∧ TakeT R o b x (k + 1) (S.set (o + k) (Oz (R.getD (o + k) 0) (G9 b x k q))) (G9 b x k q / 4294967296 + Nl (R.getD (o + k) 0) (G9 b x k q)) := by
 obtain ⟨h1, h2, h3, h4, h5⟩ := h
 have ht := (Wc (k := k) hb hx h5).2
 have hl := V0 (R.getD (o + k) 0) _ ht
 have hs := Ac7 (R.getD (o + k) 0) (G9 b x k q) (hR.getD _)
 have hc : G9 b x k q = q + b.getD k 0 * x := rfl
 refine ⟨h3 _ (.inr (Nat.le_refl _)), by rw [List.length_set]; exact h1, h2.set (by unfold Oz; omega), fun j hj => ?_, ?_, hl⟩
 ·rw [Al (by omega), h3 j (by omega)]
 ·rw [Au _ o k (by rw [List.length_set]; omega), Au R o k ho, At b k, Bg (by omega)]
  rw [Dn (l := S.set (o + k) (Oz (R.getD (o + k) 0) (G9 b x k q))) (m := S) o k (by rw [List.length_set]; omega) (by omega) (fun j _ hj => Al (by omega))]
  rw [Nat.pow_succ]
  generalize Oz (R.getD (o + k) 0) (G9 b x k q) = W at *
  generalize G9 b x k q / 4294967296 + Nl (R.getD (o + k) 0) (G9 b x k q) = Q at *
  generalize 4294967296 ^ k = K at *
  generalize G9 b x k q = t at *
  generalize R.getD (o + k) 0 = r at *
  have e : K * (W + t) = K * (r + 4294967296 * Q) := by rw [hs]
  rw [hc] at e
  grind
structure StepT (R : List Nat) (o : Nat) (b : List Nat) (S : List Nat) (often below : Nat) : Prop where
 len : S.length = R.length
 ws : Ws S
 far : ∀ j, j < o ∨ o + (b.length + 1) ≤ j → S.getD j 0 = R.getD j 0
 sum : val ((S.drop o).take (b.length + 1)) + often * val b = val ((R.drop o).take (b.length + 1)) + 4294967296 ^ (b.length + 1) * below
 high : val ((R.drop o).take (b.length + 1)) / val b ≤ often
 low : below ≤ 1
 word : often < 4294967296
theorem TakeT.step {R : List Nat} {o : Nat} {b : List Nat} {x : Nat} {S : List Nat} {q : Nat} (h : TakeT R o b x b.length S q) (ho : o + b.length < R.length) (hR : Ws R) (hx : x < 4294967296)
  (hq : val ((R.drop o).take (b.length + 1)) / val b ≤ x) :
  S.getD (o + b.length) 0 = R.getD (o + b.length) 0 ∧
  StepT R o b (S.set (o + b.length) ((R.getD (o + b.length) 0 + 4294967296 * 2 - q - 0) % 4294967296)) x (if R.getD (o + b.length) 0 < q + 0 then 1 else 0) := by
 obtain ⟨h1, h2, h3, h4, h5⟩ := h
 refine ⟨h3 _ (.inr (Nat.le_refl _)), by rw [List.length_set]; exact h1, h2.set (by omega), fun j hj => ?_, ?_, hq, by split <;> omega, hx⟩
 ·rw [Al (by omega), h3 j (by omega)]
 ·rw [Au _ o _ (by rw [List.length_set]; omega), Au R o _ ho, Bg (by omega)]
  rw [Dn (l := S.set (o + b.length) _) (m := S) o b.length (by rw [List.length_set]; omega) (by omega) (fun j _ hj => Al (by omega))]
  rw [List.take_of_length_le (Nat.le_refl b.length)] at h4
  have hr := hR.getD (o + b.length)
  generalize R.getD (o + b.length) 0 = r at *
  have key : (r + 4294967296 * 2 - q - 0) % 4294967296 + q = r + 4294967296 * (if r < q + 0 then 1 else 0) := by split <;> omega
  generalize (r + 4294967296 * 2 - q - 0) % 4294967296 = W at *
  generalize (if r < q + 0 then 1 else 0) = c at *
  rw [Nat.pow_succ]
  generalize 4294967296 ^ b.length = K at *
  have e : K * (W + q) = K * (r + 4294967296 * c) := by rw [key]
  grind
theorem StepT.fin {R : List Nat} {o : Nat} {b : List Nat} {S : List Nat} {often : Nat} (h : StepT R o b S often 0) (hb : 0 < val b) :
  often = val ((R.drop o).take (b.length + 1)) / val b ∧ val ((S.drop o).take (b.length + 1)) = val ((R.drop o).take (b.length + 1)) % val b := by
 obtain ⟨h1, h2, h3, h4, h5, _, _⟩ := h
 rw [Nat.mul_zero, Nat.add_zero] at h4
 generalize val ((R.drop o).take (b.length + 1)) = P at *
 generalize val ((S.drop o).take (b.length + 1)) = s at *
 generalize val b = D at *
 have e1 : often ≤ P / D := by rw [Nat.le_div_iff_mul_le hb]; omega
 have e2 : often = P / D := by omega
 refine ⟨e2, ?_⟩
 have e3 := Nat.div_add_mod P D
 rw [← e2, Nat.mul_comm] at e3
 omega
theorem StepT.more {R : List Nat} {o : Nat} {b : List Nat} {S : List Nat} {often : Nat} (h : StepT R o b S often 1) (hb : 0 < val b) (ho : o + b.length < R.length) :
  0 < often ∧ val ((R.drop o).take (b.length + 1)) / val b < often := by
 obtain ⟨h1, h2, h3, h4, h5, _, _⟩ := h
 have hl := Dk ((h2.drop o).take (b.length + 1))
 rw [List.length_take, List.length_drop, Nat.min_eq_left (by omega)] at hl
 generalize val ((R.drop o).take (b.length + 1)) = P at *
 generalize val ((S.drop o).take (b.length + 1)) = s at *
 generalize val b = D at *
 have e : P / D < often := by rw [Nat.div_lt_iff_lt_mul hb]; omega
 exact ⟨Nat.lt_of_le_of_lt (Nat.zero_le _) e, e⟩
theorem StepT.back {R : List Nat} {o : Nat} {b : List Nat} {S : List Nat} {often : Nat} {T : List Nat} {q : Nat} (h : StepT R o b S often 1) (hb : 0 < val b) (ho : o + b.length < R.length)
  (hT : AddT S o b 1 b.length T q) :
  T.getD (o + b.length) 0 = S.getD (o + b.length) 0 ∧ (S.getD (o + b.length) 0 + q + 0) / 4294967296 ≤ 1 ∧
  StepT R o b (T.set (o + b.length) ((S.getD (o + b.length) 0 + q + 0) % 4294967296)) (often - 1) (1 - (S.getD (o + b.length) 0 + q + 0) / 4294967296) := by
 obtain ⟨m1, m2⟩ := h.more hb ho
 obtain ⟨h1, h2, h3, h4, h5, h6, h7⟩ := h
 obtain ⟨g1, g2, g3, g4, g5⟩ := hT
 have hs := h2.getD (o + b.length)
 refine ⟨g3 _ (.inr (Nat.le_refl _)), by omega, by rw [List.length_set]; omega, g2.set (by omega), fun j hj => ?_, ?_, by omega, by omega, by omega⟩
 ·rw [Al (by omega), g3 j (by omega), h3 j (by omega)]
 ·rw [Au _ o _ (by rw [List.length_set]; omega), Bg (by omega)]
  rw [Dn (l := T.set (o + b.length) _) (m := T) o b.length (by rw [List.length_set]; omega) (by omega) (fun j _ hj => Al (by omega))]
  rw [Au S o _ (by omega)] at h4
  rw [List.take_of_length_le (Nat.le_refl b.length)] at g4
  obtain ⟨k, rfl⟩ : ∃ k, often = k + 1 := ⟨often - 1, by omega⟩
  have hc : (S.getD (o + b.length) 0 + q + 0) / 4294967296 ≤ 1 := by omega
  generalize S.getD (o + b.length) 0 = r at *
  obtain ⟨c, hcc⟩ : ∃ c, (r + q + 0) / 4294967296 = c := ⟨_, rfl⟩
  obtain ⟨W, hW⟩ : ∃ W, (r + q + 0) % 4294967296 = W := ⟨_, rfl⟩
  have key : W + 4294967296 * c = r + q := by omega
  rw [hcc] at hc ⊢
  rw [hW]
  rw [Nat.pow_succ] at h4 ⊢
  generalize 4294967296 ^ b.length = K at *
  have e : K * (W + 4294967296 * c) = K * (r + q) := by rw [key]
  rw [Nat.add_sub_cancel]
  obtain ⟨d, hd⟩ : ∃ d, 1 - c = d := ⟨_, rfl⟩
  have hcd : c + d = 1 := by omega
  rw [hd]
  have e2 : K * 4294967296 * (c + d) = K * 4294967296 * 1 := by rw [hcd]
  grind
theorem Y9 {P D h1 h0 t K p' d' : Nat} (hP : P = p' + K * (h0 + 4294967296 * h1)) (hp : p' < K) (hD : D = d' + K * t) (ht : 0 < t) : P / D ≤ (h1 * 4294967296 + h0) / t := by
 rcases Nat.eq_zero_or_pos K with hK | hK
 ·omega
 rw [Nat.le_div_iff_mul_le ht]
 have e1 : P / D * D ≤ P := Nat.div_mul_le_self P D
 generalize P / D = q at *
 have e2 : q * D = q * d' + K * (q * t) := by rw [hD]; grind
 have e3 : K * (q * t) < K * (h0 + 4294967296 * h1 + 1) := by rw [Nat.mul_add K, Nat.mul_one]; omega
 have := Nat.lt_of_mul_lt_mul_left e3
 omega
theorem Jm (n : Nat) (h : n < 4294967296) : n.testBit 31 = decide (2147483648 ≤ n) := by
 rw [Nat.testBit_eq_decide_div_mod_eq]
 exact decide_eq_decide.2 (by rw [show 2 ^ 31 = 2147483648 from rfl]; omega)
theorem Ae8 (n : Nat) (h : n < 4294967296) : n / 2147483648 = if n.testBit 31 = true then 1 else 0 := by
 rw [Jm n h]
 by_cases h1 : 2147483648 ≤ n
 ·rw [if_pos (by simpa using h1)]; omega
 ·rw [if_neg (by simpa using h1)]; omega
theorem Qo (x y c D : Nat) (hx : x < 4294967296) (hy : y < 4294967296) (hc : c ≤ 1) (hD : (x + 4294967296 * 2 - y - c) % 4294967296 = D) :
  bits BinOp.or IntKind.u32 (bits BinOp.and IntKind.u32 (bits BinOp.xor IntKind.u32 IntKind.u32.max (x : Int)) (y : Int)) (bits BinOp.and IntKind.u32 (bits BinOp.xor IntKind.u32 IntKind.u32.max (bits BinOp.xor IntKind.u32 (x : Int) (y : Int))) (D : Int)) / 2147483648 = ((if x < y + c then 1 else 0 : Nat) : Int) := by
 have hD2 : D < 4294967296 := by omega
 have hm : IntKind.u32.max = ((4294967295 : Nat) : Int) := rfl
 have p32 : (4294967296 : Nat) = 2 ^ 32 := rfl
 have a1 : 4294967295 ^^^ x < 4294967296 := by rw [p32]; exact Nat.xor_lt_two_pow (by omega) (by omega)
 have a2 : x ^^^ y < 4294967296 := by rw [p32]; exact Nat.xor_lt_two_pow (by omega) (by omega)
 have a3 : 4294967295 ^^^ (x ^^^ y) < 4294967296 := by rw [p32]; exact Nat.xor_lt_two_pow (by omega) (by omega)
 have a4 : (4294967295 ^^^ x) &&& y < 4294967296 := Nat.lt_of_le_of_lt Nat.and_le_right hy
 have a5 : (4294967295 ^^^ (x ^^^ y)) &&& D < 4294967296 := Nat.lt_of_le_of_lt Nat.and_le_right hD2
 have a6 : ((4294967295 ^^^ x) &&& y) ||| ((4294967295 ^^^ (x ^^^ y)) &&& D) < 4294967296 := by rw [p32] at *; exact Nat.or_lt_two_pow a4 a5
 rw [hm, u32_xor_nat _ _ (by omega) hx, u32_xor_nat _ _ hx hy, u32_xor_nat _ _ (by omega) a2, u32_and_nat _ _ a1 hy, u32_and_nat _ _ a3 hD2, u32_or_nat _ _ a4 a5]
 obtain ⟨n, hn⟩ : ∃ n, ((4294967295 ^^^ x) &&& y) ||| ((4294967295 ^^^ (x ^^^ y)) &&& D) = n := ⟨_, rfl⟩
 have hb : n.testBit 31 = ((!decide (2147483648 ≤ x) && decide (2147483648 ≤ y)) || ((decide (2147483648 ≤ x) == decide (2147483648 ≤ y)) && decide (2147483648 ≤ D))) := by
  rw [← hn, Nat.testBit_or, Nat.testBit_and, Nat.testBit_and, Nat.testBit_xor, Nat.testBit_xor, Nat.testBit_xor, Jm x hx, Jm y hy, Jm D hD2, show Nat.testBit 4294967295 31 = true by decide]
  cases decide (2147483648 ≤ x) <;> cases decide (2147483648 ≤ y) <;> cases decide (2147483648 ≤ D) <;> rfl
 rw [hn] at a6 ⊢
 have h2 := Ae8 n a6
 have h3 : ((n : Nat) : Int) / 2147483648 = ((n / 2147483648 : Nat) : Int) := by omega
 rw [h3, h2, hb]
 clear hb h2 h3 a1 a2 a3 a4 a5 a6 hm p32 hn
 by_cases b1 : 2147483648 ≤ x <;> by_cases b2 : 2147483648 ≤ y <;> by_cases b3 : 2147483648 ≤ D <;> by_cases b4 : x < y + c <;> simp [b1, b2, b3, b4] <;> omega
theorem Z2 {a b c d : Int} (h : a = c) (g : b = d) : Ending.returned (.tuple #[.int .u32 a, .int .u32 b]) = .returned (.tuple #[.int .u32 c, .int .u32 d]) := by rw [h, g]
theorem Ig (x y c : Nat) (w : World) (hx : x < 4294967296) (hy : y < 4294967296) (hc : c ≤ 1) :
  Cq 234 #[.int .u32 x, .int .u32 y, .int .u32 c] (.tuple #[.int .u32 ((x + 4294967296 * 2 - y - c) % 4294967296 : Nat), .int .u32 ((if x < y + c then 1 else 0 : Nat) : Int)]) w := by
 obtain ⟨D, hD⟩ : ∃ D : Nat, (x + 4294967296 * 2 - y - c) % 4294967296 = D := ⟨_, rfl⟩
 have hb := Qo x y c D hx hy hc hD
 obtain ⟨r, hr⟩ : ∃ r : Nat, (if x < y + c then 1 else 0 : Nat) = r := ⟨_, rfl⟩
 rw [hr] at hb
 rw [hD, hr]
 have hd : ((x : Int) - (y : Int) - (c : Int)) % 4294967296 = (D : Int) := by omega
 have hsg : IntKind.u32.signed = false := rfl
 have HB := Lh hb
 clear hx hy hc hD hr hb
 go_enter Tryz.func234, Tryz.ntmps234
 go_wp2
 go_ret2
 exact ⟨Z2 (by omega) HB.out, rfl⟩
theorem Z5 (g n c d s : Nat) (R : List Nat) (w : World) (hR : Row w g R) (hRw : Ws R) (hl : R.length = n) (hn : n ≤ 4096) (hs : s < 32) :
  Cp 221 #[.slice (some ⟨g, 0, none⟩) n c, .slice (some ⟨g, 0, none⟩) n d, .int .i64 s] w (fun e w' => e = .returned (.tuple #[]) ∧ ∃ S, ShrP R 0 R s n S ∧ Row w' g S ∧ Only g w w') := by
 have hn1 : (n : Int) ≤ 4096 := by omega
 have hs1 : (s : Int) < 32 := by omega
 have hs0 : (0 : Int) ≤ (s : Int) := by omega
 have HL := Lh hl
 have HRW := Lh hRw
 have HR := Lh hR
 have HSTART := Lh (ShrP.start 0 R s hRw)
 clear hR hRw hl
 go_enter Tryz.func221, Tryz.ntmps221
 go_wp2
 go_loopw [9] (fun i wr => ∃ (k : Nat) (S : List Nat), i = .int .i64 k ∧ k ≤ n ∧ Hid (Row wr g S) ∧ Hid (ShrP R 0 R s k S) ∧ Only g w wr) (fun i _ => n - (intOf i).toNat)
 case atStart => exact ⟨0, R, rfl, Nat.zero_le _, HR, HSTART, Only.refl _ _⟩
 case round =>
  obtain ⟨k, S, rfl, hk, HRS, HS, hbw⟩ := hrel
  by_cases hlt : k < n
  ·have hSl : S.length = n := by rw [HS.out.len, HL.out]
   have hS := HRS.out.cell k (by omega)
   have hfz := HRS.out.frozen k
   have HNX := Lh (HS.out.next HRW.out (by omega) (by rw [HL.out]; omega))
   have HROW := Lh (HRS.out.set k (Hd R s k))
   have hgg := HRS.out.lt
   have HRR := Lh (fun W (hW : Below (g + 1) wr W) => show RW W (g + 1) (some ⟨g, 0, none⟩) S from (HRS.out.rw0 HS.out.ws).below hW)
   have HF := Lh HS.out.far
   have C1 := Lh (fun W (hW : Below (g + 1) wr W) => show Cp 178 #[.slice (some ⟨g, 0, none⟩) n d, .int .i64 k] W fun e w' => e = .returned (.int .u32 (R.getD k 0 : Nat)) ∧ W = w' from by
    have := Cu (some ⟨g, 0, none⟩) n d k S (g + 1) W hSl (by omega) (HRR.out W hW)
    rw [HF.out k (by omega)] at this; exact this)
   have C2 := Lh (fun W (hW : Below (g + 1) wr W) => show Cp 178 #[.slice (some ⟨g, 0, none⟩) n d, .int .i64 ((k + 1 : Nat) : Int)] W fun e w' => e = .returned (.int .u32 (R.getD (k + 1) 0 : Nat)) ∧ W = w' from by
    have := Cu (some ⟨g, 0, none⟩) n d (k + 1) S (g + 1) W hSl (by omega) (HRR.out W hW)
    rw [HF.out (k + 1) (by omega)] at this; exact this)
   have hbd := Ae (Below.refl (g + 1) wr) 1
   have HBS := Lh (show Only g w (wr.setCell ⟨g, k, none⟩ (.int .u32 (Hd R s k : Nat))) from hbw.setCell _)
   obtain ⟨x, hx⟩ : ∃ x, R.getD k 0 = x := ⟨_, rfl⟩
   rw [hx] at C1
   obtain ⟨y, hy⟩ : ∃ y, R.getD (k + 1) 0 = y := ⟨_, rfl⟩
   rw [hy] at C2
   rw [show ((k + 1 : Nat) : Int) = (k : Int) + 1 by omega] at C2
   have HW := Lh (show ((Hd R s k : Nat) : Int) = bits BinOp.or IntKind.u32 ((x : Int) / 2 ^ s) ((y : Int) * 2 ^ (32 - s) % 4294967296) by
    rw [Abp x y s (by omega) (by rw [← hx]; exact HRW.out.getD k)]
    unfold Hd; rw [hx, hy])
   have hkk : (k : Int) < (n : Int) := by omega
   have e1 : IntKind.i64.wrap ((k : Int) + 1) = (k : Int) + 1 := IntWalk.i64_in _ (by omega)
   have e2 : IntKind.i64.wrap (32 - (s : Int)) = 32 - (s : Int) := IntWalk.i64_in _ (by omega)
   have e3 : (0 : Int) ≤ 32 - (s : Int) := by omega
   rw [Nat.zero_add] at HNX
   clear hx hy hk hSl hgg
   go_wp2
   go_region_with (first
      | (go_at_call 178; (with_reducible refine (C1.out _ ?_).mono ?_); exact hbd; rintro e w' ⟨rfl, rfl⟩)
      | (go_at_call 178; (with_reducible refine (C2.out _ ?_).mono ?_); exact hbd; rintro e w' ⟨rfl, rfl⟩))
   all_goals
    go_wp2_with fail
    rw [← HW.out]
    exact ⟨⟨k + 1, _, by go_num, hlt, HROW, HNX, HBS.out.drewN 1⟩, by simp [intOf]; omega⟩
  ·have hkn : k = n := by omega
   subst hkn
   clear hlt
   go_wp2
   go_end0
   exact ⟨rfl, S, HS.out, HRS.out, hbw⟩
theorem Sy {B : Nat} {a w : World} (h : Below B a w) : Below B a w.drew := ⟨h.os, h.tape, h.output, h.size, h.block⟩
def Aat (v u : Nat) (w : World) (e : Ending) (w' : World) : Prop := if (Ah v || Ah u) = true then Ck 3 w e w' else if v < u then Ck 1 w e w' else NatPost (v - u) w e w'
theorem Agb (A C : Option Addr) (n c m d : Nat) (l k : List Nat) (w : World) (hn : l.length = n) (hc : n ≤ c) (hm : n ≤ 35184372088832) (h : RW w w.heap.size A l)
  (gn : k.length = m) (gc : m ≤ d) (gm : m ≤ 35184372088832) (g : RW w w.heap.size C k) (hl : (Ah (val l) || Ah (val k)) = false) (hle : val k ≤ val l) :
  Cp 202 #[.slice A n c, .slice C m d] w (NatPost (val l - val k) w) := by
 have c1 := Bp A C n c m d l k w hn hc hm h gn gc gm g
 have hp : Below w.heap.size w (Ea w (.slice A n c) (.slice C m d)) := (Below.refl _ _).alloc (Nat.le_refl _) _
 rw [hl] at c1
 obtain ⟨hl1, hl2⟩ : Ah (val l) = false ∧ Ah (val k) = false := by simpa using hl
 have c4 := Vr A C n c m d l k w.heap.size w.heap.size _ hn hc hm (h.below hp) gn gc gm (g.below hp)
 have c2 := fun j => Ak A n c l w.heap.size ((Ea w (.slice A n c) (.slice C m d)).drewN j) hn hc hm (h.below (Ae hp j))
 have c3 := fun j => Ak C m d k w.heap.size ((Ea w (.slice A n c) (.slice C m d)).drewN j) gn gc gm (g.below (Ae hp j))
 have hord : ord l k = 0 ∨ ord l k = 1 := by
  rcases Nat.lt_or_ge (val k) (val l) with h1 | h1
  ·exact .inr (Tr h1)
  ·exact .inl (Aau (by omega))
 have n1 := Da h.1 hl1
 have n12 : (nrm k).length ≤ (nrm l).length := by
  rcases Nat.lt_or_ge (nrm l).length (nrm k).length with h1 | h1
  ·have := Jp h.1 h1; omega
  ·exact h1
 obtain ⟨a, ha⟩ : ∃ a, nrm l = a := ⟨_, rfl⟩
 obtain ⟨b, hb⟩ : ∃ b, nrm k = b := ⟨_, rfl⟩
 have hA := h.nrm
 have hB := g.nrm
 rw [ha] at n1 c2 hA n12
 rw [hb] at c3 hB n12
 rw [← Ar l, ← Ar k, ha, hb] at hle ⊢
 obtain ⟨N, hN⟩ : ∃ N, a.length = N := ⟨_, rfl⟩
 obtain ⟨M, hM⟩ : ∃ M, b.length = M := ⟨_, rfl⟩
 rw [hN] at n1 c2 n12
 rw [hM] at c3 n12
 obtain ⟨o, ho⟩ : ∃ o, ord l k = o := ⟨_, rfl⟩
 rw [ho] at c4 hord
 clear h g hn hc hm gn gc gm hl hl1 hl2 ha hb ho
 obtain ⟨W, hW⟩ : ∃ W, Ea w (.slice A n c) (.slice C m d) = W := ⟨_, rfl⟩
 rw [hW] at c1 c2 c3 c4 hp
 have HW := Lh hW
 have hmk := fun j => run_make_row' (P := Tryz.prog) 121 129 (.int .u32 0) 4 Tryz.underlying121 F6 rfl .i64 .i64 N (by omega) (by omega) (W.drewN j)
 have hNN : (N : Int) ≤ 1024 := by omega
 have HN := Lh hN
 have HM := Lh hM
 have HA := Lh hA
 have HB := Lh hB
 have hgW := hp.size
 have HROW := Lh (fun j => Row.made (W.drewN j) N)
 have HBL := Lh (fun j => (show Below w.heap.size w ((W.drewN j).alloc (.cells (madeCells #[.int .u32 0] N) 129)) from (Ae hp j).alloc hp.size _))
 have N12 := Lh n12
 have HLE := Lh hle
 clear hA hB hN hM hp n1 n12 hW hle
 rcases hord with rfl | rfl
 all_goals
  go_enter Tryz.func202, Tryz.ntmps202
  go_wp2_with fail
  rw [show w.alloc (.cells #[.slice A n c, .slice C m d] 121) = W from HW.out]
  refine c1.mono ?_
  rintro e w1 ⟨rfl, rfl⟩
  go_wp2_with fail
  refine c4.mono ?_
  rintro e w1 ⟨rfl, j0, rfl⟩
  go_wp2_with fail
  refine (c2 _).mono ?_
  rintro e w1 ⟨rfl, rfl⟩
  go_wp2_with fail
  refine (c3 _).mono ?_
  rintro e w1 ⟨rfl, rfl⟩
  have hmk0 := hmk j0
  clear c1 c2 c3 c4 hmk
  go_wp2
  go_loopw [26, 7] (fun i v wr => ∃ (q : Nat) (S : List Nat) (r : Nat), i = .int .i64 q ∧ v = .int .u32 (r : Nat) ∧ q ≤ N ∧ Hid (Row wr W.heap.size S) ∧ Hid (SubT a b q S r) ∧ Hid (S.length = N) ∧ Below w.heap.size w wr) (fun i _ _ => N - (intOf i).toNat)
  case atStart => exact ⟨0, _, 0, rfl, rfl, Nat.zero_le _, Lh (HROW.out j0), Lh (SubT.start a b _ (Ws.zeros _)), Lh List.length_replicate, HBL.out j0⟩
  case round =>
   obtain ⟨q, S, r, rfl, rfl, hq, HR, HT, HSL, hbw⟩ := hrel
   by_cases hlt : q < N
   ·have hx := HA.out.1.getD q
    have hy := HB.out.1.getD q
    have hr := HT.out.low
    have hcell := HR.out.cell q (by rw [HSL.out]; exact hlt)
    have hfz := HR.out.frozen q
    obtain ⟨ab, ao, hAe, hab, hca⟩ := HA.out.2 (by rw [HN.out]; omega)
    have hcl := hca q _ (Ba (by rw [HN.out]; exact hlt))
    rw [← hbw.cell (p := ⟨ab, ao + q, none⟩) hab] at hcl
    obtain ⟨t, ht⟩ : ∃ t, Y0 a b q r = t := ⟨_, rfl⟩
    obtain ⟨r2, hr2⟩ : ∃ r2, Xn a b q r = r2 := ⟨_, rfl⟩
    have htl : t < 4294967296 := by rw [← ht]; unfold Y0; omega
    have C2 := Lh (fun W (hB : Below w.heap.size w W) => Cu C M M q b w.heap.size W HM.out (by have := N12.out; omega) (HB.out.below hB))
    have C3 := Lh (fun W => show Cp 234 #[.int .u32 (a.getD q 0 : Nat), .int .u32 (b.getD q 0 : Nat), .int .u32 (r : Nat)] W fun e w' => e = .returned (.tuple #[.int .u32 (t : Nat), .int .u32 (r2 : Nat)]) ∧ W = w' from by
     have := Ig (a.getD q 0) (b.getD q 0) r W hx hy hr
     rw [show (a.getD q 0 + 4294967296 * 2 - b.getD q 0 - r) % 4294967296 = t from ht, show (if a.getD q 0 < b.getD q 0 + r then 1 else 0) = r2 from hr2] at this
     exact this)
    have hbd : Below w.heap.size w wr.drew := ⟨hbw.os, hbw.tape, hbw.output, hbw.size, hbw.block⟩
    obtain ⟨x, hxe⟩ : ∃ x, a.getD q 0 = x := ⟨_, rfl⟩
    rw [hxe] at hcl C3
    have HSET := Lh (HR.out.set q t)
    have HNX := Lh (show SubT a b (q + 1) (S.set q t) r2 by
     rw [← hr2]
     refine HT.out.next HA.out.1 HB.out.1 (HT.out.ws.set htl) ?_ ?_
     ·exact Co q (by rw [List.length_set, HSL.out]; omega) (by rw [HSL.out]; omega) (fun j hj => Al (by omega))
     ·rw [Bg (by rw [HSL.out]; exact hlt), ht])
    have HSL2 := Lh (show (S.set q t).length = N by rw [List.length_set]; exact HSL.out)
    have hq1 : (q : Int) < (N : Int) := by omega
    have hq0 : (0 : Int) ≤ (q : Int) := by omega
    subst hAe
    clear hx hy hr ht htl hr2 hxe hca hab
    go_wp2
    go_region_with (first
      | (go_at_call 178; refine (C2.out _ ?_).mono ?_; exact hbd; rintro e w' ⟨rfl, rfl⟩)
      | (go_at_call 234; refine (C3.out _).mono ?_; rintro e w' ⟨rfl, rfl⟩))
    all_goals
     go_wp2_with fail
     go_roundw
     case rel => exact ⟨q + 1, _, r2, by go_num, rfl, by omega, Lh (show Row _ _ _ from HSET.out), HNX, HSL2, Sy (hbw.setCell hgW _)⟩
     case measure => simp [intOf]; omega
   ·have hqN : q = N := by omega
    have hlt2 := HR.out.lt
    have HV := Lh (show val S = val a - val b from (hqN ▸ HT.out : SubT a b N S r).whole (by rw [HN.out]; exact Nat.le_refl _) (by rw [HM.out]; exact N12.out) HSL.out HLE.out)
    have C1 := Lh (Et (some ⟨W.heap.size, 0, none⟩) N N S wr HSL.out (Nat.le_refl _) (by omega) ((HR.out.rw0 HT.out.ws).more hlt2))
    have hq1 : ¬ (q : Int) < (N : Int) := by omega
    clear hqN hlt2
    go_wp2_with fail
    refine C1.out.mono ?_
    rintro e w2 h
    have h2 := NatPost.from_ hbw h
    rw [HV.out] at h2
    obtain ⟨A2, n2, c2, k2, rfl, h3, h4⟩ := h2
    have H3 := Lh h3
    have H4 := Lh h4
    clear h h3 h4 C1
    go_wp2
    go_ret2
    exact ⟨A2, n2, c2, k2, rfl, H3.out, H4.out⟩
theorem Z8 (A C : Option Addr) (n c m d : Nat) (l k : List Nat) (w : World) (hn : l.length = n) (hc : n ≤ c) (hm : n ≤ 35184372088832) (h : RW w w.heap.size A l)
  (gn : k.length = m) (gc : m ≤ d) (gm : m ≤ 35184372088832) (g : RW w w.heap.size C k) (hl : (Ah (val l) || Ah (val k)) = true) :
  Cp 202 #[.slice A n c, .slice C m d] w (Ck 3 w) := by
 have c1 := Bp A C n c m d l k w hn hc hm h gn gc gm g
 have hp : Below w.heap.size w (Ea w (.slice A n c) (.slice C m d)) := (Below.refl _ _).alloc (Nat.le_refl _) _
 rw [hl] at c1
 have HP := Lh hp
 clear h g hn hc hm gn gc gm hl hp
 go_enter Tryz.func202, Tryz.ntmps202
 go_wp2_with fail
 refine c1.mono ?_
 rintro e w1 ⟨rfl, rfl⟩
 go_wp2
 go_ret2
 exact ⟨rfl, HP.out⟩
theorem Acp (A C : Option Addr) (n c m d : Nat) (l k : List Nat) (w : World) (hn : l.length = n) (hc : n ≤ c) (hm : n ≤ 35184372088832) (h : RW w w.heap.size A l)
  (gn : k.length = m) (gc : m ≤ d) (gm : m ≤ 35184372088832) (g : RW w w.heap.size C k) (hl : (Ah (val l) || Ah (val k)) = false) (hlt : val l < val k) :
  Cp 202 #[.slice A n c, .slice C m d] w (Ck 1 w) := by
 have c1 := Bp A C n c m d l k w hn hc hm h gn gc gm g
 have hp : Below w.heap.size w (Ea w (.slice A n c) (.slice C m d)) := (Below.refl _ _).alloc (Nat.le_refl _) _
 rw [hl] at c1
 have c4 := Vr A C n c m d l k w.heap.size w.heap.size _ hn hc hm (h.below hp) gn gc gm (g.below hp)
 rw [Un hlt] at c4
 have HP := Lh hp
 clear h g hn hc hm gn gc gm hl hp hlt
 go_enter Tryz.func202, Tryz.ntmps202
 go_wp2_with fail
 refine c1.mono ?_
 rintro e w1 ⟨rfl, rfl⟩
 go_wp2_with fail
 refine c4.mono ?_
 rintro e w1 ⟨rfl, j0, rfl⟩
 go_wp2
 go_ret2
 exact ⟨rfl, Ae HP.out j0⟩
theorem Aeb (A C : Option Addr) (n c m d : Nat) (l k : List Nat) (w : World) (hn : l.length = n) (hc : n ≤ c) (hm : n ≤ 35184372088832) (h : RW w w.heap.size A l)
  (gn : k.length = m) (gc : m ≤ d) (gm : m ≤ 35184372088832) (g : RW w w.heap.size C k) :
  Cp 202 #[.slice A n c, .slice C m d] w (Aat (val l) (val k) w) := by
 cases hl : (Ah (val l) || Ah (val k))
 ·by_cases hlt : val l < val k
  ·exact (Acp A C n c m d l k w hn hc hm h gn gc gm g hl hlt).mono (fun e w' x => by unfold Aat; rw [if_neg (by rw [hl]; simp), if_pos hlt]; exact x)
  ·exact (Agb A C n c m d l k w hn hc hm h gn gc gm g hl (by omega)).mono (fun e w' x => by unfold Aat; rw [if_neg (by rw [hl]; simp), if_neg hlt]; exact x)
 ·exact (Z8 A C n c m d l k w hn hc hm h gn gc gm g hl).mono (fun e w' x => by unfold Aat; rw [if_pos hl]; exact x)
theorem Aav {v u : Nat} (h : u ≤ v) (hv : Ah v = false) : Ah u = false := by
 unfold Ah at hv ⊢
 have h1 := of_decide_eq_false hv
 have h2 := Cf (n := u) (k := (wds v).length) (Nat.lt_of_le_of_lt h (Gw v))
 exact decide_eq_false (by omega)
theorem Xx {v : Nat} {p : Int} {w : World} (h : Ah v = true) : Qm v p w = Ck 3 w := by funext e w'; unfold Qm; rw [if_pos h]
theorem Abz {v : Nat} {p : Int} {w : World} (h : Ah v = false) (hp : p < 0) : Qm v p w = Ck 1 w := by funext e w'; unfold Qm; rw [if_neg (by rw [h]; simp), if_pos hp]
theorem Aee {v q : Nat} {w : World} (h : Ah v = false) : Qm v (q : Int) w = NatPost (v * 2 ^ q) w := by funext e w'; unfold Qm; rw [if_neg (by rw [h]; simp), if_neg (by omega), Int.toNat_natCast]
theorem Abn (A : Option Addr) (n c : Nat) (p : Int) (l : List Nat) (w : World) (hn : l.length = n) (hc : n ≤ c) (hm : n ≤ 35184372088832) (h : RW w w.heap.size A l) :
  Cp 201 #[.slice A n c, .int .i64 p] w (Qm (val l) p w) := by
 cases hl : Ah (val l)
 ·by_cases hp : p < 0
  ·rw [Abz hl hp]
   exact Adl A n c p l w hn hc hm h hl hp
  ·obtain ⟨q, rfl⟩ : ∃ q : Nat, p = (q : Int) := ⟨p.toNat, by omega⟩
   rw [Aee hl]
   by_cases h0 : nrm l = []
   ·have := Yn A n c q l w hn hc hm h (by omega) h0
    rw [← Ar l, h0, show val [] = 0 from rfl, Nat.zero_mul]
    exact this
   ·have h1 : nrm (nrm l) ≠ [] := by rw [D2]; exact h0
    by_cases hf : btl (nrm l) + q ≤ 32768
    ·exact Aff A n c q (q / 32) (q % 32) l w hn hc hm h hl h0 hf (by omega) (by omega)
    ·refine (Ado A n c q l w hn hc hm h hl (by omega) h0 (by omega)).mono fun e w' x => ?_
     obtain ⟨rfl, hb⟩ := x
     have := Zx (n := q) h.1.nrm h1 (by omega)
     rw [Ar] at this
     exact NatPost.long this hb
 ·rw [Xx hl]
  exact Ys A n c p l w hn hc hm h hl
theorem Z6 (b e n : Nat) (h : e ≤ n) (hl : Ah (b ^ e) = true) : Ah (b ^ n) = true := by
 cases hn : Ah (b ^ n)
 ·rcases Nat.eq_zero_or_pos b with h0 | h0
  ·subst h0
   rcases Nat.eq_zero_or_pos e with h1 | h1
   ·subst h1
    have : Ah (0 ^ 0) = false := Dv (by simp)
    rw [this] at hl; cases hl
   ·rw [Nat.zero_pow h1, Dv (by omega)] at hl; cases hl
  ·have := Aav (Nat.pow_le_pow_right h0 h) hn
   rw [this] at hl; cases hl
 ·rfl
theorem Aak (b n q : Nat) : b ^ (n / 2 ^ (q + 1)) * b ^ (n / 2 ^ (q + 1)) * b ^ (n / 2 ^ q % 2) = b ^ (n / 2 ^ q) := by
 rw [← Nat.pow_add, ← Nat.pow_add]
 congr 1
 rw [Nat.pow_succ, ← Nat.div_div_eq_div_mul]
 omega
theorem Ag2 (b n q : Nat) : b ^ (n / 2 ^ (q + 1)) * b ^ (n / 2 ^ (q + 1)) = b ^ (n / 2 ^ (q + 1) + n / 2 ^ (q + 1)) := (Nat.pow_add ..).symm
theorem Ahm (n q : Nat) : n / 2 ^ (q + 1) + n / 2 ^ (q + 1) ≤ n := by
 have h1 : n / 2 ^ (q + 1) * 2 ^ (q + 1) ≤ n := Nat.div_mul_le_self n _
 have h2 : 2 ≤ 2 ^ (q + 1) := by rw [Nat.pow_succ]; have := Nat.two_pow_pos q; omega
 have h3 : n / 2 ^ (q + 1) * 2 ≤ n / 2 ^ (q + 1) * 2 ^ (q + 1) := Nat.mul_le_mul_left _ h2
 omega
end
end Go.Proofs.YtmakhfekiieneaaGreatDoor
