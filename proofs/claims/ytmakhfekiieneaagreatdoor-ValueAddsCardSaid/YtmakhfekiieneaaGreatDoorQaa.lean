/-
  Merged texts (Shelf, BA, BB).
-/
import Derived.Shelf.Strings.SlTrimAscii
import Derived.Shelf.Strings.Builder1
import Derived.Shelf.Strings.Builder2
import Derived.Shelf.Strings.OnBuilder
import Derived.Shelf.Strings.Trim
import Derived.Shelf.Small.Utf8
import Derived.Shelf.Small.Bits
import Derived.Shelf.Small.Strs
import Derived.Shelf.Small.Wraps
import Derived.Shelf.Strings.BuilderRune
import Derived.Shelf.Utf8.AppendRune
import Derived.Shelf.Strings.BuilderF
import Derived.Shelf.Strings.BuilderK
import Derived.Shelf.Strings.BuilderRune
import Derived.Shelf.Utf8.AppendRune
import Derived.Shelf.Strconv.Itoa0
import Derived.Shelf.Strconv.Itoa1
import Derived.Shelf.LaysM
import Derived.Shelf.Strconv.Itoa2
import Derived.Shelf.Strconv.Itoa3
import Derived.Shelf.Strings.Search1
import Derived.Shelf.Strings.Prefix
import Derived.Shelf.Unicode.Latin
import Derived.Shelf.Strings.Runes
import Derived.Shelf.Strings.AsciiSet
import Derived.Shelf.Bits.Mul64
import Derived.Shelf.Strings.Repeat
import Derived.Shelf.Unicode.DecodeSlow
import Derived.Shelf.Unicode.CaseLookup
import Derived.Shelf.Unicode.CaseConvert
import Derived.Shelf.Unicode.CaseTo
import Derived.Shelf.Unicode.CaseLaid
import Derived.Test.YtmakhfekiieneaaGreatDoorProg
import GoSem.Core.Utf8
import Derived.WalkKit
import Derived.WalkSpells
import Derived.WalkLawsBesides
import Derived.Deep.QuietTactic
import Derived.BigQuiet
import Derived.Lib.Hide
import Derived.Deep.OwnRows
import Derived.Laws.CopyOwn
import Derived.Deep.AppendLies
import Derived.Lib.BitFns
import Derived.Lib.Strings
import Derived.Laws.BitsAllLaws
import Derived.Lib.LaidTab
import Derived.ProofKit
import Derived.OpenShut
import Derived.SizedLaws
import Derived.Laws.BytesString
import Derived.Laws.Cells
import Derived.Deep.RegionWith
import Derived.BigRegion
import Derived.Test.YtmakhfekiieneaaGreatDoorRows
import Derived.Lib.ItoaNum
import Derived.Deep.DeepCutAuto
namespace Go.Proofs.YtmakhfekiieneaaGreatDoor
open Go.RowKit
abbrev Cp := Calls Tryz.prog
abbrev Ct (f : FuncId) (a : Array Value) (v : Value) (w : World) : Prop := Calls Tryz.prog f a w fun e w' => e = .returned v ∧ Below w.heap.size w w'
abbrev Cq (f : FuncId) (a : Array Value) (v : Value) (w : World) : Prop := Calls Tryz.prog f a w fun e w' => e = .returned v ∧ w = w'
theorem Lh {p : Prop} (h : p) : Hid p := Lib.hid h
theorem Sm {P : Program} {f : FuncId} {x : Array Value} {w : World} {E : Ending} {R : Ending → World → Prop} (h : Calls P f x w fun e w' => e = E ∧ w = w') (k : R E w) : Calls P f x w R := h.mono fun _ _ ⟨a, b⟩ => a ▸ b ▸ k
theorem Dm {P : Program} {f : FuncId} {x : Array Value} {w : World} {E : Ending} {R : Ending → World → Prop} (h : Calls P f x w fun e w' => e = E ∧ ∃ n, w' = w.drewN n) (k : ∀ n, R E (w.drewN n)) : Calls P f x w R := h.mono fun _ _ ⟨a, n, b⟩ => by subst a; subst b; exact k n
theorem Bm {P : Program} {f : FuncId} {x : Array Value} {w : World} {E : Ending} {Q : World → Prop} {R : Ending → World → Prop} (h : Calls P f x w fun e w' => e = E ∧ Q w') (k : ∀ w', Q w' → R E w') : Calls P f x w R := h.mono fun _ w' ⟨a, b⟩ => by subst a; exact k w' b
end Go.Proofs.YtmakhfekiieneaaGreatDoor
open Go.RowKit
set_option maxRecDepth 100000
set_option maxHeartbeats 40000000
namespace Go.Proofs.YtmakhfekiieneaaGreatDoor
end Go.Proofs.YtmakhfekiieneaaGreatDoor
namespace Go.Proofs
open Go.Shelf
def Tryz.lays169_ren : Go.Shelf.Ren := ⟨fun | 169 => 82 | n => n, fun | 70 => 77 | 9 => 9 | 0 => 0 | 72 => 79 | 37 => 66 | 127 => 110 | 3 => 3 | 5 => 5 | n => n, fun | n => n⟩
theorem Tryz.lays169 : Go.Proofs.Lays.n169 Tryz.prog Tryz.lays169_ren := {
 mixed := by kernel_rfl
 f169 := Tryz.func82.trans (congrArg some (by kernel_rfl))
 t0 := Tryz.underlying0
 a0 := Tryz.isAgg0
 z0 := Tryz.sizeOf0
 v0 := Tryz.zeroValue0
 t3 := Tryz.underlying3
 a3 := Tryz.isAgg3
 z3 := Tryz.sizeOf3
 v3 := Tryz.zeroValue3
 t9 := Tryz.underlying9
 a9 := Tryz.isAgg9
 z9 := Tryz.sizeOf9
 v9 := Tryz.zeroValue9
 t37 := Tryz.underlying66
 a37 := Tryz.isAgg66
 z37 := Tryz.sizeOf66
 v37 := Tryz.zeroValue66
 t70 := Tryz.underlying77
 a70 := Tryz.isAgg77
 z70 := Tryz.sizeOf77
 v70 := Tryz.zeroValue77
 t72 := Tryz.underlying79
 a72 := Tryz.isAgg79
 z72 := Tryz.sizeOf79
 v72 := Tryz.zeroValue79
 t127 := Tryz.underlying110
 a127 := Tryz.isAgg110
 z127 := Tryz.sizeOf110
 v127 := Tryz.zeroValue110 }
theorem Tryz.Builder_Extra_169 : Builder.Extra Tryz.prog Tryz.lays169_ren := {
 sizeBuilder := by kernel_rfl
 liesBuilder := by kernel_rfl
 t5 := Tryz.underlying5
 a5 := Tryz.isAgg5
 z5 := Tryz.sizeOf5
 v5 := Tryz.zeroValue5
 infoByte := by kernel_rfl
 cellsByte := by kernel_rfl
 sizeByte := by kernel_rfl
 neB5 := by decide }
def Tryz.lays165_ren : Go.Shelf.Ren := ⟨fun | 165 => 80 | 240 => 112 | 241 => 113 | 276 => 142 | 277 => 143 | n => n, fun | 70 => 77 | 3 => 3 | 0 => 0 | 4 => 4 | 9 => 9 | 20 => 20 | 72 => 79 | 37 => 66 | 164 => 131 | 5 => 5 | n => n, fun | n => n⟩
theorem Tryz.lays165 : Go.Proofs.Lays.n165 Tryz.prog Tryz.lays165_ren := {
 mixed := by kernel_rfl
 f165 := Tryz.func80.trans (congrArg some (by kernel_rfl))
 f240 := Tryz.func112.trans (congrArg some (by kernel_rfl))
 f241 := Tryz.func113.trans (congrArg some (by kernel_rfl))
 f276 := Tryz.func142.trans (congrArg some (by kernel_rfl))
 f277 := Tryz.func143.trans (congrArg some (by kernel_rfl))
 t0 := Tryz.underlying0
 a0 := Tryz.isAgg0
 z0 := Tryz.sizeOf0
 v0 := Tryz.zeroValue0
 t3 := Tryz.underlying3
 a3 := Tryz.isAgg3
 z3 := Tryz.sizeOf3
 v3 := Tryz.zeroValue3
 t4 := Tryz.underlying4
 a4 := Tryz.isAgg4
 z4 := Tryz.sizeOf4
 v4 := Tryz.zeroValue4
 t9 := Tryz.underlying9
 a9 := Tryz.isAgg9
 z9 := Tryz.sizeOf9
 v9 := Tryz.zeroValue9
 t20 := Tryz.underlying20
 a20 := Tryz.isAgg20
 z20 := Tryz.sizeOf20
 v20 := Tryz.zeroValue20
 t37 := Tryz.underlying66
 a37 := Tryz.isAgg66
 z37 := Tryz.sizeOf66
 v37 := Tryz.zeroValue66
 t70 := Tryz.underlying77
 a70 := Tryz.isAgg77
 z70 := Tryz.sizeOf77
 v70 := Tryz.zeroValue77
 t72 := Tryz.underlying79
 a72 := Tryz.isAgg79
 z72 := Tryz.sizeOf79
 v72 := Tryz.zeroValue79
 t164 := Tryz.underlying131
 a164 := Tryz.isAgg131
 z164 := Tryz.sizeOf131
 v164 := Tryz.zeroValue131 }
theorem Tryz.Builder_Extra_165 : Builder.Extra Tryz.prog Tryz.lays165_ren := {
 sizeBuilder := by kernel_rfl
 liesBuilder := by kernel_rfl
 t5 := Tryz.underlying5
 a5 := Tryz.isAgg5
 z5 := Tryz.sizeOf5
 v5 := Tryz.zeroValue5
 infoByte := by kernel_rfl
 cellsByte := by kernel_rfl
 sizeByte := by kernel_rfl
 neB5 := by decide }
open Go.RowKit in
theorem Tryz.Builder_Grow_fresh (B b n : Nat) (w : World) (hB : B ≤ b) (hbk : w.heap[b]? = some (.cells #[.pointer none, .slice none 0 0] 79 (0, 0))) (hBw : B ≤ w.heap.size) (hn : n ≤ 281474976710656) :
  Calls Tryz.prog 80 #[.pointer (some ⟨b, 0, none⟩), .int .i64 n] w fun e w' => e = .returned (.tuple #[]) ∧ (Lib.BuilderAt 79 5 B b (.pointer (some ⟨b, 0, none⟩)) [] w' ∧ Below B w w') := Any.Builder_Grow_fresh Tryz.lays165 Tryz.Builder_Extra_165 B b n w hB hbk hBw hn
def Tryz.lays159_ren : Go.Shelf.Ren := ⟨fun | 159 => 97 | 165 => 80 | 166 => 127 | 167 => 92 | 169 => 82 | 230 => 128 | 204 => 129 | 240 => 112 | 241 => 113 | 197 => 165 | 118 => 166 | 168 => 167 | 270 => 168 | 262 => 169 | 276 => 142 | 277 => 143 | 260 => 214 | 242 => 215 | 313 => 216 | 278 => 239 | 274 => 240 | 275 => 241 | n => n, fun | 9 => 9 | 4 => 4 | 3 => 3 | 5 => 5 | 72 => 79 | 0 => 0 | 76 => 117 | 75 => 89 | 107 => 120 | 70 => 77 | 20 => 20 | 37 => 66 | 127 => 110 | 21 => 21 | 105 => 161 | 164 => 131 | 162 => 202 | 203 => 200 | 119 => 217 | 46 => 85 | 139 => 220 | 138 => 219 | 51 => 129 | 160 => 221 | 208 => 241 | 206 => 239 | 80 => 82 | n => n, fun | 13 => 2 | 3 => 4 | 4 => 5 | n => n⟩
theorem Tryz.lays159 : Go.Proofs.Lays.n159 Tryz.prog Tryz.lays159_ren := {
 mixed := by kernel_rfl
 f118 := Tryz.func166.trans (congrArg some (by kernel_rfl))
 f159 := Tryz.func97.trans (congrArg some (by kernel_rfl))
 f165 := Tryz.func80.trans (congrArg some (by kernel_rfl))
 f166 := Tryz.func127.trans (congrArg some (by kernel_rfl))
 f167 := Tryz.func92.trans (congrArg some (by kernel_rfl))
 f168 := Tryz.func167.trans (congrArg some (by kernel_rfl))
 f169 := Tryz.func82.trans (congrArg some (by kernel_rfl))
 f197 := Tryz.func165.trans (congrArg some (by kernel_rfl))
 f204 := Tryz.func129.trans (congrArg some (by kernel_rfl))
 f230 := Tryz.func128.trans (congrArg some (by kernel_rfl))
 f240 := Tryz.func112.trans (congrArg some (by kernel_rfl))
 f241 := Tryz.func113.trans (congrArg some (by kernel_rfl))
 f242 := Tryz.func215.trans (congrArg some (by kernel_rfl))
 f260 := Tryz.func214.trans (congrArg some (by kernel_rfl))
 f262 := Tryz.func169.trans (congrArg some (by kernel_rfl))
 f270 := Tryz.func168.trans (congrArg some (by kernel_rfl))
 f274 := Tryz.func240.trans (congrArg some (by kernel_rfl))
 f275 := Tryz.func241.trans (congrArg some (by kernel_rfl))
 f276 := Tryz.func142.trans (congrArg some (by kernel_rfl))
 f277 := Tryz.func143.trans (congrArg some (by kernel_rfl))
 f278 := Tryz.func239.trans (congrArg some (by kernel_rfl))
 f313 := Tryz.func216.trans (congrArg some (by kernel_rfl))
 t0 := Tryz.underlying0
 a0 := Tryz.isAgg0
 z0 := Tryz.sizeOf0
 v0 := Tryz.zeroValue0
 t3 := Tryz.underlying3
 a3 := Tryz.isAgg3
 z3 := Tryz.sizeOf3
 v3 := Tryz.zeroValue3
 t4 := Tryz.underlying4
 a4 := Tryz.isAgg4
 z4 := Tryz.sizeOf4
 v4 := Tryz.zeroValue4
 t5 := Tryz.underlying5
 a5 := Tryz.isAgg5
 z5 := Tryz.sizeOf5
 v5 := Tryz.zeroValue5
 t9 := Tryz.underlying9
 a9 := Tryz.isAgg9
 z9 := Tryz.sizeOf9
 v9 := Tryz.zeroValue9
 t20 := Tryz.underlying20
 a20 := Tryz.isAgg20
 z20 := Tryz.sizeOf20
 v20 := Tryz.zeroValue20
 t21 := Tryz.underlying21
 a21 := Tryz.isAgg21
 z21 := Tryz.sizeOf21
 v21 := Tryz.zeroValue21
 t37 := Tryz.underlying66
 a37 := Tryz.isAgg66
 z37 := Tryz.sizeOf66
 v37 := Tryz.zeroValue66
 t46 := Tryz.underlying85
 a46 := Tryz.isAgg85
 z46 := Tryz.sizeOf85
 v46 := Tryz.zeroValue85
 t51 := Tryz.underlying129
 a51 := Tryz.isAgg129
 z51 := Tryz.sizeOf129
 v51 := Tryz.zeroValue129
 t70 := Tryz.underlying77
 a70 := Tryz.isAgg77
 z70 := Tryz.sizeOf77
 v70 := Tryz.zeroValue77
 t72 := Tryz.underlying79
 a72 := Tryz.isAgg79
 z72 := Tryz.sizeOf79
 v72 := Tryz.zeroValue79
 t75 := Tryz.underlying89
 a75 := Tryz.isAgg89
 z75 := Tryz.sizeOf89
 v75 := Tryz.zeroValue89
 t76 := Tryz.underlying117
 a76 := Tryz.isAgg117
 z76 := Tryz.sizeOf117
 v76 := Tryz.zeroValue117
 t105 := Tryz.underlying161
 a105 := Tryz.isAgg161
 z105 := Tryz.sizeOf161
 v105 := Tryz.zeroValue161
 t107 := Tryz.underlying120
 a107 := Tryz.isAgg120
 z107 := Tryz.sizeOf120
 v107 := Tryz.zeroValue120
 t119 := Tryz.underlying217
 a119 := Tryz.isAgg217
 z119 := Tryz.sizeOf217
 t127 := Tryz.underlying110
 a127 := Tryz.isAgg110
 z127 := Tryz.sizeOf110
 v127 := Tryz.zeroValue110
 t138 := Tryz.underlying219
 a138 := Tryz.isAgg219
 z138 := Tryz.sizeOf219
 v138 := Tryz.zeroValue219
 t139 := Tryz.underlying220
 a139 := Tryz.isAgg220
 z139 := Tryz.sizeOf220
 v139 := Tryz.zeroValue220
 t160 := Tryz.underlying221
 a160 := Tryz.isAgg221
 z160 := Tryz.sizeOf221
 v160 := Tryz.zeroValue221
 t162 := Tryz.underlying202
 a162 := Tryz.isAgg202
 z162 := Tryz.sizeOf202
 v162 := Tryz.zeroValue202
 t164 := Tryz.underlying131
 a164 := Tryz.isAgg131
 z164 := Tryz.sizeOf131
 v164 := Tryz.zeroValue131
 t203 := Tryz.underlying200
 a203 := Tryz.isAgg200
 z203 := Tryz.sizeOf200
 v203 := Tryz.zeroValue200
 t206 := Tryz.underlying239
 a206 := Tryz.isAgg239
 z206 := Tryz.sizeOf239
 v206 := Tryz.zeroValue239
 t208 := Tryz.underlying241
 a208 := Tryz.isAgg241
 z208 := Tryz.sizeOf241
 v208 := Tryz.zeroValue241
 g3 := by kernel_rfl
 g4 := by kernel_rfl
 g13 := by kernel_rfl }
theorem Tryz.Builder_Extra_159 : Builder.Extra Tryz.prog Tryz.lays159_ren := {
 sizeBuilder := by kernel_rfl
 liesBuilder := by kernel_rfl
 t5 := Tryz.underlying5
 a5 := Tryz.isAgg5
 z5 := Tryz.sizeOf5
 v5 := Tryz.zeroValue5
 infoByte := by kernel_rfl
 cellsByte := by kernel_rfl
 sizeByte := by kernel_rfl
 neB5 := by decide }
open Go.RowKit in
theorem Tryz.strings_ToLower_ascii (s : ByteArray) (w : World) (hs : s.size ≤ 140737488355328) (hascii : ∀ (j : Nat) (b : UInt8), s.data.toList[j]? = some b → b.toNat < 128) :
  Calls Tryz.prog 97 #[.string s] w fun e w' => e = .returned (.string ⟨(Lib.toLowerA s.data.toList).toArray⟩) ∧ Below w.heap.size w w' := Any.strings_ToLower_ascii Tryz.lays159 Tryz.Builder_Extra_159 s w hs hascii
def Tryz.lays161_ren : Go.Shelf.Ren := ⟨fun | 161 => 126 | 231 => 161 | 227 => 162 | 233 => 163 | 235 => 164 | 228 => 212 | 197 => 165 | 151 => 213 | 260 => 214 | 152 => 238 | 137 => 254 | 119 => 255 | 224 => 256 | 225 => 257 | 217 => 267 | 266 => 271 | n => n, fun | 9 => 9 | 4 => 4 | 3 => 3 | 5 => 5 | 117 => 157 | 116 => 156 | 0 => 0 | 124 => 160 | 105 => 161 | 21 => 21 | 119 => 217 | 46 => 85 | 139 => 220 | 138 => 219 | n => n, fun | 3 => 4 | 4 => 5 | n => n⟩
theorem Tryz.lays161 : Go.Proofs.Lays.n161 Tryz.prog Tryz.lays161_ren := {
 mixed := by kernel_rfl
 f119 := Tryz.func255.trans (congrArg some (by kernel_rfl))
 f137 := Tryz.func254.trans (congrArg some (by kernel_rfl))
 f151 := Tryz.func213.trans (congrArg some (by kernel_rfl))
 f152 := Tryz.func238.trans (congrArg some (by kernel_rfl))
 f161 := Tryz.func126.trans (congrArg some (by kernel_rfl))
 f197 := Tryz.func165.trans (congrArg some (by kernel_rfl))
 f217 := Tryz.func267.trans (congrArg some (by kernel_rfl))
 f224 := Tryz.func256.trans (congrArg some (by kernel_rfl))
 f225 := Tryz.func257.trans (congrArg some (by kernel_rfl))
 f227 := Tryz.func162.trans (congrArg some (by kernel_rfl))
 f228 := Tryz.func212.trans (congrArg some (by kernel_rfl))
 f231 := Tryz.func161.trans (congrArg some (by kernel_rfl))
 f233 := Tryz.func163.trans (congrArg some (by kernel_rfl))
 f235 := Tryz.func164.trans (congrArg some (by kernel_rfl))
 f260 := Tryz.func214.trans (congrArg some (by kernel_rfl))
 f266 := Tryz.func271.trans (congrArg some (by kernel_rfl))
 t0 := Tryz.underlying0
 a0 := Tryz.isAgg0
 z0 := Tryz.sizeOf0
 v0 := Tryz.zeroValue0
 t3 := Tryz.underlying3
 a3 := Tryz.isAgg3
 z3 := Tryz.sizeOf3
 v3 := Tryz.zeroValue3
 t4 := Tryz.underlying4
 a4 := Tryz.isAgg4
 z4 := Tryz.sizeOf4
 v4 := Tryz.zeroValue4
 t5 := Tryz.underlying5
 a5 := Tryz.isAgg5
 z5 := Tryz.sizeOf5
 v5 := Tryz.zeroValue5
 t9 := Tryz.underlying9
 a9 := Tryz.isAgg9
 z9 := Tryz.sizeOf9
 v9 := Tryz.zeroValue9
 t21 := Tryz.underlying21
 a21 := Tryz.isAgg21
 z21 := Tryz.sizeOf21
 v21 := Tryz.zeroValue21
 t46 := Tryz.underlying85
 a46 := Tryz.isAgg85
 z46 := Tryz.sizeOf85
 v46 := Tryz.zeroValue85
 t105 := Tryz.underlying161
 a105 := Tryz.isAgg161
 z105 := Tryz.sizeOf161
 v105 := Tryz.zeroValue161
 t116 := Tryz.underlying156
 a116 := Tryz.isAgg156
 z116 := Tryz.sizeOf156
 t117 := Tryz.underlying157
 a117 := Tryz.isAgg157
 z117 := Tryz.sizeOf157
 v117 := Tryz.zeroValue157
 t119 := Tryz.underlying217
 a119 := Tryz.isAgg217
 z119 := Tryz.sizeOf217
 t124 := Tryz.underlying160
 a124 := Tryz.isAgg160
 z124 := Tryz.sizeOf160
 v124 := Tryz.zeroValue160
 t138 := Tryz.underlying219
 a138 := Tryz.isAgg219
 z138 := Tryz.sizeOf219
 v138 := Tryz.zeroValue219
 t139 := Tryz.underlying220
 a139 := Tryz.isAgg220
 z139 := Tryz.sizeOf220
 v139 := Tryz.zeroValue220
 g3 := by kernel_rfl
 g4 := by kernel_rfl }
def Tryz.lays162_ren : Go.Shelf.Ren := ⟨fun | 162 => 135 | 232 => 183 | 227 => 162 | 234 => 184 | 236 => 185 | 228 => 212 | 271 => 225 | 151 => 213 | 120 => 243 | 197 => 165 | 152 => 238 | 260 => 214 | 137 => 254 | 119 => 255 | 224 => 256 | 225 => 257 | 217 => 267 | 266 => 271 | n => n, fun | 9 => 9 | 4 => 4 | 3 => 3 | 5 => 5 | 117 => 157 | 116 => 156 | 0 => 0 | 124 => 160 | 21 => 21 | 105 => 161 | 46 => 85 | 119 => 217 | 139 => 220 | 138 => 219 | n => n, fun | 3 => 4 | 4 => 5 | n => n⟩
theorem Tryz.lays162 : Go.Proofs.Lays.n162 Tryz.prog Tryz.lays162_ren := {
 mixed := by kernel_rfl
 f119 := Tryz.func255.trans (congrArg some (by kernel_rfl))
 f120 := Tryz.func243.trans (congrArg some (by kernel_rfl))
 f137 := Tryz.func254.trans (congrArg some (by kernel_rfl))
 f151 := Tryz.func213.trans (congrArg some (by kernel_rfl))
 f152 := Tryz.func238.trans (congrArg some (by kernel_rfl))
 f162 := Tryz.func135.trans (congrArg some (by kernel_rfl))
 f197 := Tryz.func165.trans (congrArg some (by kernel_rfl))
 f217 := Tryz.func267.trans (congrArg some (by kernel_rfl))
 f224 := Tryz.func256.trans (congrArg some (by kernel_rfl))
 f225 := Tryz.func257.trans (congrArg some (by kernel_rfl))
 f227 := Tryz.func162.trans (congrArg some (by kernel_rfl))
 f228 := Tryz.func212.trans (congrArg some (by kernel_rfl))
 f232 := Tryz.func183.trans (congrArg some (by kernel_rfl))
 f234 := Tryz.func184.trans (congrArg some (by kernel_rfl))
 f236 := Tryz.func185.trans (congrArg some (by kernel_rfl))
 f260 := Tryz.func214.trans (congrArg some (by kernel_rfl))
 f266 := Tryz.func271.trans (congrArg some (by kernel_rfl))
 f271 := Tryz.func225.trans (congrArg some (by kernel_rfl))
 t0 := Tryz.underlying0
 a0 := Tryz.isAgg0
 z0 := Tryz.sizeOf0
 v0 := Tryz.zeroValue0
 t3 := Tryz.underlying3
 a3 := Tryz.isAgg3
 z3 := Tryz.sizeOf3
 v3 := Tryz.zeroValue3
 t4 := Tryz.underlying4
 a4 := Tryz.isAgg4
 z4 := Tryz.sizeOf4
 v4 := Tryz.zeroValue4
 t5 := Tryz.underlying5
 a5 := Tryz.isAgg5
 z5 := Tryz.sizeOf5
 v5 := Tryz.zeroValue5
 t9 := Tryz.underlying9
 a9 := Tryz.isAgg9
 z9 := Tryz.sizeOf9
 v9 := Tryz.zeroValue9
 t21 := Tryz.underlying21
 a21 := Tryz.isAgg21
 z21 := Tryz.sizeOf21
 v21 := Tryz.zeroValue21
 t46 := Tryz.underlying85
 a46 := Tryz.isAgg85
 z46 := Tryz.sizeOf85
 v46 := Tryz.zeroValue85
 t105 := Tryz.underlying161
 a105 := Tryz.isAgg161
 z105 := Tryz.sizeOf161
 v105 := Tryz.zeroValue161
 t116 := Tryz.underlying156
 a116 := Tryz.isAgg156
 z116 := Tryz.sizeOf156
 t117 := Tryz.underlying157
 a117 := Tryz.isAgg157
 z117 := Tryz.sizeOf157
 v117 := Tryz.zeroValue157
 t119 := Tryz.underlying217
 a119 := Tryz.isAgg217
 z119 := Tryz.sizeOf217
 t124 := Tryz.underlying160
 a124 := Tryz.isAgg160
 z124 := Tryz.sizeOf160
 v124 := Tryz.zeroValue160
 t138 := Tryz.underlying219
 a138 := Tryz.isAgg219
 z138 := Tryz.sizeOf219
 v138 := Tryz.zeroValue219
 t139 := Tryz.underlying220
 a139 := Tryz.isAgg220
 z139 := Tryz.sizeOf220
 v139 := Tryz.zeroValue220
 g3 := by kernel_rfl
 g4 := by kernel_rfl }
def Tryz.lays128_ren : Go.Shelf.Ren := ⟨fun | 128 => 219 | n => n, fun | 51 => 129 | 3 => 3 | 4 => 4 | 46 => 85 | 5 => 5 | 9 => 9 | n => n, fun | n => n⟩
theorem Tryz.lays128 : Go.Proofs.Lays.n128 Tryz.prog Tryz.lays128_ren := {
 mixed := by kernel_rfl
 f128 := Tryz.func219.trans (congrArg some (by kernel_rfl))
 t3 := Tryz.underlying3
 a3 := Tryz.isAgg3
 z3 := Tryz.sizeOf3
 v3 := Tryz.zeroValue3
 t4 := Tryz.underlying4
 a4 := Tryz.isAgg4
 z4 := Tryz.sizeOf4
 v4 := Tryz.zeroValue4
 t5 := Tryz.underlying5
 a5 := Tryz.isAgg5
 z5 := Tryz.sizeOf5
 v5 := Tryz.zeroValue5
 t9 := Tryz.underlying9
 a9 := Tryz.isAgg9
 z9 := Tryz.sizeOf9
 v9 := Tryz.zeroValue9
 t46 := Tryz.underlying85
 a46 := Tryz.isAgg85
 z46 := Tryz.sizeOf85
 v46 := Tryz.zeroValue85
 t51 := Tryz.underlying129
 a51 := Tryz.isAgg129
 z51 := Tryz.sizeOf129
 v51 := Tryz.zeroValue129 }
theorem Tryz.bits_Len32 (x : Int) (w : World) (h0 : 0 ≤ x) (h1 : x ≤ 4294967295) :
  Calls Tryz.prog 219 #[.int .u32 x] w fun e w' => e = .returned (.int .i64 (Lib.bitLen x.toNat)) ∧ w' = w := Any.bits_Len32 Tryz.lays128 x w h0 h1
def Tryz.lays125_ren : Go.Shelf.Ren := ⟨fun | 125 => 244 | 128 => 219 | 129 => 229 | n => n, fun | 46 => 85 | 3 => 3 | 51 => 129 | 53 => 40 | 4 => 4 | 5 => 5 | 9 => 9 | n => n, fun | n => n⟩
theorem Tryz.lays125 : Go.Proofs.Lays.n125 Tryz.prog Tryz.lays125_ren := {
 mixed := by kernel_rfl
 f125 := Tryz.func244.trans (congrArg some (by kernel_rfl))
 f128 := Tryz.func219.trans (congrArg some (by kernel_rfl))
 f129 := Tryz.func229.trans (congrArg some (by kernel_rfl))
 t3 := Tryz.underlying3
 a3 := Tryz.isAgg3
 z3 := Tryz.sizeOf3
 v3 := Tryz.zeroValue3
 t4 := Tryz.underlying4
 a4 := Tryz.isAgg4
 z4 := Tryz.sizeOf4
 v4 := Tryz.zeroValue4
 t5 := Tryz.underlying5
 a5 := Tryz.isAgg5
 z5 := Tryz.sizeOf5
 v5 := Tryz.zeroValue5
 t9 := Tryz.underlying9
 a9 := Tryz.isAgg9
 z9 := Tryz.sizeOf9
 v9 := Tryz.zeroValue9
 t46 := Tryz.underlying85
 a46 := Tryz.isAgg85
 z46 := Tryz.sizeOf85
 v46 := Tryz.zeroValue85
 t51 := Tryz.underlying129
 a51 := Tryz.isAgg129
 z51 := Tryz.sizeOf129
 v51 := Tryz.zeroValue129
 t53 := Tryz.underlying40
 a53 := Tryz.isAgg40
 z53 := Tryz.sizeOf40
 v53 := Tryz.zeroValue40 }
theorem Tryz.bits_Len (x : Int) (w : World) (h0 : 0 ≤ x) (h1 : x ≤ 18446744073709551615) :
  Calls Tryz.prog 244 #[.int .u64 x] w fun e w' => e = .returned (.int .i64 (Lib.bitLen x.toNat)) ∧ w' = w := Any.bits_Len Tryz.lays125 x w h0 h1
def Tryz.lays133_ren : Go.Shelf.Ren := ⟨fun | 133 => 259 | 128 => 219 | n => n, fun | 51 => 129 | 3 => 3 | 4 => 4 | 46 => 85 | 5 => 5 | 9 => 9 | n => n, fun | n => n⟩
theorem Tryz.lays133 : Go.Proofs.Lays.n133 Tryz.prog Tryz.lays133_ren := {
 mixed := by kernel_rfl
 f128 := Tryz.func219.trans (congrArg some (by kernel_rfl))
 f133 := Tryz.func259.trans (congrArg some (by kernel_rfl))
 t3 := Tryz.underlying3
 a3 := Tryz.isAgg3
 z3 := Tryz.sizeOf3
 v3 := Tryz.zeroValue3
 t4 := Tryz.underlying4
 a4 := Tryz.isAgg4
 z4 := Tryz.sizeOf4
 v4 := Tryz.zeroValue4
 t5 := Tryz.underlying5
 a5 := Tryz.isAgg5
 z5 := Tryz.sizeOf5
 v5 := Tryz.zeroValue5
 t9 := Tryz.underlying9
 a9 := Tryz.isAgg9
 z9 := Tryz.sizeOf9
 v9 := Tryz.zeroValue9
 t46 := Tryz.underlying85
 a46 := Tryz.isAgg85
 z46 := Tryz.sizeOf85
 v46 := Tryz.zeroValue85
 t51 := Tryz.underlying129
 a51 := Tryz.isAgg129
 z51 := Tryz.sizeOf129
 v51 := Tryz.zeroValue129 }
theorem Tryz.bits_LeadingZeros32 (x : Int) (w : World) (h0 : 0 ≤ x) (h1 : x ≤ 4294967295) :
  Calls Tryz.prog 259 #[.int .u32 x] w fun e w' => e = .returned (.int .i64 (32 - (Lib.bitLen x.toNat : Int))) ∧ w' = w := Any.bits_LeadingZeros32 Tryz.lays133 x w h0 h1
def Tryz.lays103_ren : Go.Shelf.Ren := ⟨fun | 103 => 100 | 210 => 133 | 206 => 181 | n => n, fun | 9 => 9 | 4 => 4 | 24 => 92 | 3 => 3 | n => n, fun | n => n⟩
theorem Tryz.lays103 : Go.Proofs.Lays.n103 Tryz.prog Tryz.lays103_ren := {
 mixed := by kernel_rfl
 f103 := Tryz.func100.trans (congrArg some (by kernel_rfl))
 f206 := Tryz.func181.trans (congrArg some (by kernel_rfl))
 f210 := Tryz.func133.trans (congrArg some (by kernel_rfl))
 t3 := Tryz.underlying3
 a3 := Tryz.isAgg3
 z3 := Tryz.sizeOf3
 v3 := Tryz.zeroValue3
 t4 := Tryz.underlying4
 a4 := Tryz.isAgg4
 z4 := Tryz.sizeOf4
 v4 := Tryz.zeroValue4
 t9 := Tryz.underlying9
 a9 := Tryz.isAgg9
 z9 := Tryz.sizeOf9
 v9 := Tryz.zeroValue9
 t24 := Tryz.underlying92
 a24 := Tryz.isAgg92
 z24 := Tryz.sizeOf92
 v24 := Tryz.zeroValue92 }
open Go.RowKit in
theorem Tryz.strings_CutPrefix (s p : ByteArray) (w : World) :
  Calls Tryz.prog 100 #[.string s, .string p] w fun e w' => e = .returned (.tuple #[.string ⟨(Lib.trimPrefix s.data.toList p.data.toList).toArray⟩, .bool (Lib.hasPrefix s.data.toList p.data.toList)]) ∧ w' = w := Any.strings_CutPrefix Tryz.lays103 s p w
open Go.RowKit in
theorem Tryz.Builder_String_any_k (B b : Nat) (l : List UInt8) (w : World) (h : Lib.IsBuilderF 79 5 B b (Lib.byteCells l) w) (hBw : B ≤ w.heap.size) :
  Calls Tryz.prog 82 #[.pointer (some ⟨b, 0, none⟩)] w fun e w' => e = .returned (.string ⟨l.toArray⟩) ∧ (Lib.IsBuilderF 79 5 B b (Lib.byteCells l) w' ∧ Below B w w' ∧ Lib.OthersKept 5 (some b) w w') := Any.Builder_String_any_k Tryz.lays169 Tryz.Builder_Extra_169 B b l w h hBw
def Tryz.lays129_ren : Go.Shelf.Ren := ⟨fun | 129 => 229 | n => n, fun | 53 => 40 | 3 => 3 | 4 => 4 | 46 => 85 | 5 => 5 | 9 => 9 | n => n, fun | n => n⟩
theorem Tryz.lays129 : Go.Proofs.Lays.n129 Tryz.prog Tryz.lays129_ren := {
 mixed := by kernel_rfl
 f129 := Tryz.func229.trans (congrArg some (by kernel_rfl))
 t3 := Tryz.underlying3
 a3 := Tryz.isAgg3
 z3 := Tryz.sizeOf3
 v3 := Tryz.zeroValue3
 t4 := Tryz.underlying4
 a4 := Tryz.isAgg4
 z4 := Tryz.sizeOf4
 v4 := Tryz.zeroValue4
 t5 := Tryz.underlying5
 a5 := Tryz.isAgg5
 z5 := Tryz.sizeOf5
 v5 := Tryz.zeroValue5
 t9 := Tryz.underlying9
 a9 := Tryz.isAgg9
 z9 := Tryz.sizeOf9
 v9 := Tryz.zeroValue9
 t46 := Tryz.underlying85
 a46 := Tryz.isAgg85
 z46 := Tryz.sizeOf85
 v46 := Tryz.zeroValue85
 t53 := Tryz.underlying40
 a53 := Tryz.isAgg40
 z53 := Tryz.sizeOf40
 v53 := Tryz.zeroValue40 }
theorem Tryz.bits_Len64 (x : Int) (w : World) (h0 : 0 ≤ x) (h1 : x ≤ 18446744073709551615) :
  Calls Tryz.prog 229 #[.int .u64 x] w fun e w' => e = .returned (.int .i64 (Lib.bitLen x.toNat)) ∧ w' = w := Any.bits_Len64 Tryz.lays129 x w h0 h1
def Tryz.lays283_ren : Go.Shelf.Ren := ⟨fun | 283 => 248 | n => n, fun | 3 => 3 | 9 => 9 | 4 => 4 | n => n, fun | n => n⟩
theorem Tryz.lays283 : Go.Proofs.Lays.n283 Tryz.prog Tryz.lays283_ren := {
 mixed := by kernel_rfl
 f283 := Tryz.func248.trans (congrArg some (by kernel_rfl))
 t3 := Tryz.underlying3
 a3 := Tryz.isAgg3
 z3 := Tryz.sizeOf3
 v3 := Tryz.zeroValue3
 t4 := Tryz.underlying4
 a4 := Tryz.isAgg4
 z4 := Tryz.sizeOf4
 v4 := Tryz.zeroValue4
 t9 := Tryz.underlying9
 a9 := Tryz.isAgg9
 z9 := Tryz.sizeOf9
 v9 := Tryz.zeroValue9 }
open Go.Lib in
theorem Tryz.internal_strconv_small (i : Nat) (h : i < 100) (w : World) :
  Calls Tryz.prog 248 #[.int .i64 i] w fun e w' => e = .returned (.string ⟨(Lib.decDigits i).toArray⟩) ∧ w' = w := Any.internal_strconv_small Tryz.lays283 i h w
def Tryz.laysM284_ren : Go.Shelf.Ren := ⟨fun | 284 => 249 | 129 => 229 | 317 => 261 | 318 => 262 | n => n, fun | 53 => 40 | 3 => 3 | 212 => 244 | 0 => 0 | 4 => 4 | 46 => 85 | 5 => 5 | 9 => 9 | n => n, fun | 17 => 6 | n => n⟩
theorem Tryz.laysM284 : Go.Proofs.LaysM.n284 Tryz.prog Tryz.laysM284_ren := {
 mixed := by kernel_rfl
 f129 := Tryz.func229.trans (congrArg some (by kernel_rfl))
 f284 := Tryz.func249.trans (congrArg some (by kernel_rfl))
 f317 := Tryz.func261.trans (congrArg some (by kernel_rfl))
 f318 := Tryz.func262.trans (congrArg some (by kernel_rfl))
 t0 := Tryz.underlying0
 a0 := Tryz.isAgg0
 z0 := Tryz.sizeOf0
 v0 := Tryz.zeroValue0
 t3 := Tryz.underlying3
 a3 := Tryz.isAgg3
 z3 := Tryz.sizeOf3
 v3 := Tryz.zeroValue3
 t4 := Tryz.underlying4
 a4 := Tryz.isAgg4
 z4 := Tryz.sizeOf4
 v4 := Tryz.zeroValue4
 t5 := Tryz.underlying5
 a5 := Tryz.isAgg5
 z5 := Tryz.sizeOf5
 v5 := Tryz.zeroValue5
 t9 := Tryz.underlying9
 a9 := Tryz.isAgg9
 z9 := Tryz.sizeOf9
 v9 := Tryz.zeroValue9
 t46 := Tryz.underlying85
 a46 := Tryz.isAgg85
 z46 := Tryz.sizeOf85
 v46 := Tryz.zeroValue85
 t53 := Tryz.underlying40
 a53 := Tryz.isAgg40
 z53 := Tryz.sizeOf40
 v53 := Tryz.zeroValue40
 t212 := Tryz.underlying244
 a212 := Tryz.isAgg244
 z212 := Tryz.sizeOf244
 v212 := Tryz.zeroValue244
 g17 := by kernel_rfl
 i0 := by kernel_rfl
 i3 := by kernel_rfl
 i4 := by kernel_rfl
 i5 := by kernel_rfl
 i9 := by kernel_rfl
 i46 := by kernel_rfl
 i53 := by kernel_rfl
 i212 := by kernel_rfl
 m17 := by kernel_rfl }
open Go.Lib in
theorem Tryz.internal_strconv_numDigits (u : Nat) (h1 : 1 ≤ u) (h2 : u < 18446744073709551616) (w : World) (htab : Lib.TabIs Tryz.prog w "internal/strconv.uint64pow10" .u64 Lib.pow10Tab) :
  Calls Tryz.prog 249 #[.int .u64 u] w fun e w' => e = .returned (.int .i64 (Lib.nDigits u)) ∧ w' = w := Any.internal_strconv_numDigits Tryz.laysM284 u h1 h2 w htab
def Tryz.lays285_ren : Go.Shelf.Ren := ⟨fun | 285 => 250 | n => n, fun | 37 => 66 | 53 => 40 | 3 => 3 | 4 => 4 | 51 => 129 | 9 => 9 | 5 => 5 | 0 => 0 | n => n, fun | n => n⟩
theorem Tryz.lays285 : Go.Proofs.Lays.n285 Tryz.prog Tryz.lays285_ren := {
 mixed := by kernel_rfl
 f285 := Tryz.func250.trans (congrArg some (by kernel_rfl))
 t0 := Tryz.underlying0
 a0 := Tryz.isAgg0
 z0 := Tryz.sizeOf0
 v0 := Tryz.zeroValue0
 t3 := Tryz.underlying3
 a3 := Tryz.isAgg3
 z3 := Tryz.sizeOf3
 v3 := Tryz.zeroValue3
 t4 := Tryz.underlying4
 a4 := Tryz.isAgg4
 z4 := Tryz.sizeOf4
 v4 := Tryz.zeroValue4
 t5 := Tryz.underlying5
 a5 := Tryz.isAgg5
 z5 := Tryz.sizeOf5
 v5 := Tryz.zeroValue5
 t9 := Tryz.underlying9
 a9 := Tryz.isAgg9
 z9 := Tryz.sizeOf9
 v9 := Tryz.zeroValue9
 t37 := Tryz.underlying66
 a37 := Tryz.isAgg66
 z37 := Tryz.sizeOf66
 v37 := Tryz.zeroValue66
 t51 := Tryz.underlying129
 a51 := Tryz.isAgg129
 z51 := Tryz.sizeOf129
 v51 := Tryz.zeroValue129
 t53 := Tryz.underlying40
 a53 := Tryz.isAgg40
 z53 := Tryz.sizeOf40
 v53 := Tryz.zeroValue40 }
open Go.RowKit Go.Sort Go.Lib in
theorem Tryz.internal_strconv_formatBase10 (blk off cap : Nat) (u : Nat) (d : Array UInt8) (w : World) (hH : Holds (fun (b : UInt8) => Value.int .u8 (b.toNat : Int)) w blk off d) (hu : u < 10 ^ d.size) (hu64 : u < 18446744073709551616) (hsz : d.size < 4611686018427387904) :
  Calls Tryz.prog 250 #[.slice (some ⟨blk, off, none⟩) d.size cap, .int .u64 u] w fun e w' =>
   e = .returned (.tuple #[]) ∧ ∃ (n v' : Nat) (dk : Array UInt8), w' = (putRow (fun (b : UInt8) => Value.int .u8 (b.toNat : Int)) w blk off dk).drewN n ∧ FmtInv d.size u 0 v' dk := Any.internal_strconv_formatBase10 Tryz.lays285 blk off cap u d w hH hu hu64 hsz
def Tryz.laysM171_ren : Go.Shelf.Ren := ⟨fun | 171 => 149 | 243 => 205 | 246 => 236 | 283 => 248 | 284 => 249 | 285 => 250 | 286 => 251 | 129 => 229 | 317 => 261 | 318 => 262 | 319 => 263 | 320 => 264 | 337 => 270 | 338 => 199 | n => n, fun | 3 => 3 | 9 => 9 | 2 => 2 | 4 => 4 | 171 => 229 | 0 => 0 | 53 => 40 | 37 => 66 | 5 => 5 | 173 => 231 | 212 => 244 | 51 => 129 | 20 => 20 | 213 => 245 | 46 => 85 | 232 => 249 | 233 => 211 | n => n, fun | 17 => 6 | 18 => 8 | 19 => 3 | n => n⟩
theorem Tryz.laysM171 : Go.Proofs.LaysM.n171 Tryz.prog Tryz.laysM171_ren := {
 mixed := by kernel_rfl
 f129 := Tryz.func229.trans (congrArg some (by kernel_rfl))
 f171 := Tryz.func149.trans (congrArg some (by kernel_rfl))
 f243 := Tryz.func205.trans (congrArg some (by kernel_rfl))
 f246 := Tryz.func236.trans (congrArg some (by kernel_rfl))
 f283 := Tryz.func248.trans (congrArg some (by kernel_rfl))
 f284 := Tryz.func249.trans (congrArg some (by kernel_rfl))
 f285 := Tryz.func250.trans (congrArg some (by kernel_rfl))
 f286 := Tryz.func251.trans (congrArg some (by kernel_rfl))
 f317 := Tryz.func261.trans (congrArg some (by kernel_rfl))
 f318 := Tryz.func262.trans (congrArg some (by kernel_rfl))
 f319 := Tryz.func263.trans (congrArg some (by kernel_rfl))
 f320 := Tryz.func264.trans (congrArg some (by kernel_rfl))
 f337 := Tryz.func270.trans (congrArg some (by kernel_rfl))
 f338 := Tryz.func199.trans (congrArg some (by kernel_rfl))
 t0 := Tryz.underlying0
 a0 := Tryz.isAgg0
 z0 := Tryz.sizeOf0
 v0 := Tryz.zeroValue0
 t2 := Tryz.underlying2
 a2 := Tryz.isAgg2
 z2 := Tryz.sizeOf2
 v2 := Tryz.zeroValue2
 t3 := Tryz.underlying3
 a3 := Tryz.isAgg3
 z3 := Tryz.sizeOf3
 v3 := Tryz.zeroValue3
 t4 := Tryz.underlying4
 a4 := Tryz.isAgg4
 z4 := Tryz.sizeOf4
 v4 := Tryz.zeroValue4
 t5 := Tryz.underlying5
 a5 := Tryz.isAgg5
 z5 := Tryz.sizeOf5
 v5 := Tryz.zeroValue5
 t9 := Tryz.underlying9
 a9 := Tryz.isAgg9
 z9 := Tryz.sizeOf9
 v9 := Tryz.zeroValue9
 t20 := Tryz.underlying20
 a20 := Tryz.isAgg20
 z20 := Tryz.sizeOf20
 v20 := Tryz.zeroValue20
 t37 := Tryz.underlying66
 a37 := Tryz.isAgg66
 z37 := Tryz.sizeOf66
 v37 := Tryz.zeroValue66
 t46 := Tryz.underlying85
 a46 := Tryz.isAgg85
 z46 := Tryz.sizeOf85
 v46 := Tryz.zeroValue85
 t51 := Tryz.underlying129
 a51 := Tryz.isAgg129
 z51 := Tryz.sizeOf129
 v51 := Tryz.zeroValue129
 t53 := Tryz.underlying40
 a53 := Tryz.isAgg40
 z53 := Tryz.sizeOf40
 v53 := Tryz.zeroValue40
 t171 := Tryz.underlying229
 a171 := Tryz.isAgg229
 z171 := Tryz.sizeOf229
 v171 := Tryz.zeroValue229
 t173 := Tryz.underlying231
 a173 := Tryz.isAgg231
 z173 := Tryz.sizeOf231
 v173 := Tryz.zeroValue231
 t212 := Tryz.underlying244
 a212 := Tryz.isAgg244
 z212 := Tryz.sizeOf244
 v212 := Tryz.zeroValue244
 t213 := Tryz.underlying245
 a213 := Tryz.isAgg245
 z213 := Tryz.sizeOf245
 t232 := Tryz.underlying249
 a232 := Tryz.isAgg249
 z232 := Tryz.sizeOf249
 v232 := Tryz.zeroValue249
 t233 := Tryz.underlying211
 a233 := Tryz.isAgg211
 z233 := Tryz.sizeOf211
 v233 := Tryz.zeroValue211
 g17 := by kernel_rfl
 g18 := by kernel_rfl
 g19 := by kernel_rfl
 i0 := by kernel_rfl
 i2 := by kernel_rfl
 i3 := by kernel_rfl
 i4 := by kernel_rfl
 i5 := by kernel_rfl
 i9 := by kernel_rfl
 i20 := by kernel_rfl
 i37 := by kernel_rfl
 i46 := by kernel_rfl
 i51 := by kernel_rfl
 i53 := by kernel_rfl
 i171 := by kernel_rfl
 i173 := by kernel_rfl
 i212 := by kernel_rfl
 i232 := by kernel_rfl
 i233 := by kernel_rfl
 m17 := by kernel_rfl
 m18 := by kernel_rfl
 m19 := by kernel_rfl }
open Go.RowKit Go.Sort Go.Lib in
theorem Tryz.strconv_Itoa (n : Int) (h0 : -9223372036854775808 ≤ n) (h1 : n ≤ 9223372036854775807) (w : World) (htab : Lib.TabIs Tryz.prog w "internal/strconv.uint64pow10" .u64 Lib.pow10Tab) :
  Calls Tryz.prog 149 #[.int .i64 n] w fun e w' => e = .returned (.string ⟨(Lib.itoa n).toArray⟩) ∧ ∃ k os, w' = grow (w.drewN k) os := Any.strconv_Itoa Tryz.laysM171 n h0 h1 w htab
def Tryz.lays101_ren : Go.Shelf.Ren := ⟨fun | 101 => 132 | 208 => 180 | 206 => 181 | n => n, fun | 9 => 9 | 4 => 4 | 3 => 3 | n => n, fun | n => n⟩
theorem Tryz.lays101 : Go.Proofs.Lays.n101 Tryz.prog Tryz.lays101_ren := {
 mixed := by kernel_rfl
 f101 := Tryz.func132.trans (congrArg some (by kernel_rfl))
 f206 := Tryz.func181.trans (congrArg some (by kernel_rfl))
 f208 := Tryz.func180.trans (congrArg some (by kernel_rfl))
 t3 := Tryz.underlying3
 a3 := Tryz.isAgg3
 z3 := Tryz.sizeOf3
 v3 := Tryz.zeroValue3
 t4 := Tryz.underlying4
 a4 := Tryz.isAgg4
 z4 := Tryz.sizeOf4
 v4 := Tryz.zeroValue4
 t9 := Tryz.underlying9
 a9 := Tryz.isAgg9
 z9 := Tryz.sizeOf9
 v9 := Tryz.zeroValue9 }
open Go.RowKit Go.Lib in
theorem Tryz.strings_TrimPrefix (s p : ByteArray) (w : World) :
  Calls Tryz.prog 132 #[.string s, .string p] w fun e w' => e = .returned (.string ⟨(Lib.trimPrefix s.data.toList p.data.toList).toArray⟩) ∧ w' = w := Any.strings_TrimPrefix Tryz.lays101 s p w
def Tryz.lays105_ren : Go.Shelf.Ren := ⟨fun | 105 => 118 | 212 => 150 | 99 => 151 | 165 => 80 | 166 => 127 | 170 => 152 | 169 => 82 | 263 => 206 | 264 => 207 | 206 => 181 | 240 => 112 | 241 => 113 | 276 => 142 | 277 => 143 | n => n, fun | 9 => 9 | 3 => 3 | 4 => 4 | 20 => 20 | 0 => 0 | 46 => 85 | 109 => 143 | 5 => 5 | 72 => 79 | 76 => 117 | 51 => 129 | 146 => 169 | 53 => 40 | 148 => 195 | 70 => 77 | 37 => 66 | 75 => 89 | 127 => 110 | 164 => 131 | 80 => 82 | n => n, fun | n => n⟩
theorem Tryz.lays105 : Go.Proofs.Lays.n105 Tryz.prog Tryz.lays105_ren := {
 mixed := by kernel_rfl
 f99 := Tryz.func151.trans (congrArg some (by kernel_rfl))
 f105 := Tryz.func118.trans (congrArg some (by kernel_rfl))
 f165 := Tryz.func80.trans (congrArg some (by kernel_rfl))
 f166 := Tryz.func127.trans (congrArg some (by kernel_rfl))
 f169 := Tryz.func82.trans (congrArg some (by kernel_rfl))
 f170 := Tryz.func152.trans (congrArg some (by kernel_rfl))
 f206 := Tryz.func181.trans (congrArg some (by kernel_rfl))
 f212 := Tryz.func150.trans (congrArg some (by kernel_rfl))
 f240 := Tryz.func112.trans (congrArg some (by kernel_rfl))
 f241 := Tryz.func113.trans (congrArg some (by kernel_rfl))
 f263 := Tryz.func206.trans (congrArg some (by kernel_rfl))
 f264 := Tryz.func207.trans (congrArg some (by kernel_rfl))
 f276 := Tryz.func142.trans (congrArg some (by kernel_rfl))
 f277 := Tryz.func143.trans (congrArg some (by kernel_rfl))
 t0 := Tryz.underlying0
 a0 := Tryz.isAgg0
 z0 := Tryz.sizeOf0
 v0 := Tryz.zeroValue0
 t3 := Tryz.underlying3
 a3 := Tryz.isAgg3
 z3 := Tryz.sizeOf3
 v3 := Tryz.zeroValue3
 t4 := Tryz.underlying4
 a4 := Tryz.isAgg4
 z4 := Tryz.sizeOf4
 v4 := Tryz.zeroValue4
 t5 := Tryz.underlying5
 a5 := Tryz.isAgg5
 z5 := Tryz.sizeOf5
 v5 := Tryz.zeroValue5
 t9 := Tryz.underlying9
 a9 := Tryz.isAgg9
 z9 := Tryz.sizeOf9
 v9 := Tryz.zeroValue9
 t20 := Tryz.underlying20
 a20 := Tryz.isAgg20
 z20 := Tryz.sizeOf20
 v20 := Tryz.zeroValue20
 t37 := Tryz.underlying66
 a37 := Tryz.isAgg66
 z37 := Tryz.sizeOf66
 v37 := Tryz.zeroValue66
 t46 := Tryz.underlying85
 a46 := Tryz.isAgg85
 z46 := Tryz.sizeOf85
 v46 := Tryz.zeroValue85
 t51 := Tryz.underlying129
 a51 := Tryz.isAgg129
 z51 := Tryz.sizeOf129
 v51 := Tryz.zeroValue129
 t53 := Tryz.underlying40
 a53 := Tryz.isAgg40
 z53 := Tryz.sizeOf40
 v53 := Tryz.zeroValue40
 t70 := Tryz.underlying77
 a70 := Tryz.isAgg77
 z70 := Tryz.sizeOf77
 v70 := Tryz.zeroValue77
 t72 := Tryz.underlying79
 a72 := Tryz.isAgg79
 z72 := Tryz.sizeOf79
 v72 := Tryz.zeroValue79
 t75 := Tryz.underlying89
 a75 := Tryz.isAgg89
 z75 := Tryz.sizeOf89
 v75 := Tryz.zeroValue89
 t76 := Tryz.underlying117
 a76 := Tryz.isAgg117
 z76 := Tryz.sizeOf117
 v76 := Tryz.zeroValue117
 t109 := Tryz.underlying143
 a109 := Tryz.isAgg143
 z109 := Tryz.sizeOf143
 v109 := Tryz.zeroValue143
 t127 := Tryz.underlying110
 a127 := Tryz.isAgg110
 z127 := Tryz.sizeOf110
 v127 := Tryz.zeroValue110
 t146 := Tryz.underlying169
 a146 := Tryz.isAgg169
 z146 := Tryz.sizeOf169
 v146 := Tryz.zeroValue169
 t148 := Tryz.underlying195
 a148 := Tryz.isAgg195
 z148 := Tryz.sizeOf195
 v148 := Tryz.zeroValue195
 t164 := Tryz.underlying131
 a164 := Tryz.isAgg131
 z164 := Tryz.sizeOf131
 v164 := Tryz.zeroValue131 }
theorem Tryz.Builder_Extra_105 : Builder.Extra Tryz.prog Tryz.lays105_ren := {
 sizeBuilder := by kernel_rfl
 liesBuilder := by kernel_rfl
 t5 := Tryz.underlying5
 a5 := Tryz.isAgg5
 z5 := Tryz.sizeOf5
 v5 := Tryz.zeroValue5
 infoByte := by kernel_rfl
 cellsByte := by kernel_rfl
 sizeByte := by kernel_rfl
 neB5 := by decide }
open Go.RowKit Go.Lib in
theorem Tryz.strings_Repeat (s : ByteArray) (c : Nat) (w : World) (hc : c ≤ 9223372036854775807) (hlen : s.size * c ≤ 140737488355328) :
  Calls Tryz.prog 118 #[.string s, .int .i64 c] w fun e w' => e = .returned (.string ⟨(Lib.repeatL s.data.toList c).toArray⟩) ∧ Below w.heap.size w w' := Any.strings_Repeat Tryz.lays105 Tryz.Builder_Extra_105 s c w hc hlen
def Tryz.lays167_ren : Go.Shelf.Ren := ⟨fun | 167 => 92 | 240 => 112 | 276 => 142 | n => n, fun | 70 => 77 | 5 => 5 | 75 => 89 | 0 => 0 | 72 => 79 | 37 => 66 | 4 => 4 | 164 => 131 | 80 => 82 | 9 => 9 | 20 => 20 | n => n, fun | n => n⟩
theorem Tryz.lays167 : Go.Proofs.Lays.n167 Tryz.prog Tryz.lays167_ren := {
 mixed := by kernel_rfl
 f167 := Tryz.func92.trans (congrArg some (by kernel_rfl))
 f240 := Tryz.func112.trans (congrArg some (by kernel_rfl))
 f276 := Tryz.func142.trans (congrArg some (by kernel_rfl))
 t0 := Tryz.underlying0
 a0 := Tryz.isAgg0
 z0 := Tryz.sizeOf0
 v0 := Tryz.zeroValue0
 t4 := Tryz.underlying4
 a4 := Tryz.isAgg4
 z4 := Tryz.sizeOf4
 v4 := Tryz.zeroValue4
 t5 := Tryz.underlying5
 a5 := Tryz.isAgg5
 z5 := Tryz.sizeOf5
 v5 := Tryz.zeroValue5
 t9 := Tryz.underlying9
 a9 := Tryz.isAgg9
 z9 := Tryz.sizeOf9
 v9 := Tryz.zeroValue9
 t20 := Tryz.underlying20
 a20 := Tryz.isAgg20
 z20 := Tryz.sizeOf20
 v20 := Tryz.zeroValue20
 t37 := Tryz.underlying66
 a37 := Tryz.isAgg66
 z37 := Tryz.sizeOf66
 v37 := Tryz.zeroValue66
 t70 := Tryz.underlying77
 a70 := Tryz.isAgg77
 z70 := Tryz.sizeOf77
 v70 := Tryz.zeroValue77
 t72 := Tryz.underlying79
 a72 := Tryz.isAgg79
 z72 := Tryz.sizeOf79
 v72 := Tryz.zeroValue79
 t75 := Tryz.underlying89
 a75 := Tryz.isAgg89
 z75 := Tryz.sizeOf89
 v75 := Tryz.zeroValue89
 t164 := Tryz.underlying131
 a164 := Tryz.isAgg131
 z164 := Tryz.sizeOf131
 v164 := Tryz.zeroValue131 }
theorem Tryz.Builder_Extra_167 : Builder.Extra Tryz.prog Tryz.lays167_ren := {
 sizeBuilder := by kernel_rfl
 liesBuilder := by kernel_rfl
 t5 := Tryz.underlying5
 a5 := Tryz.isAgg5
 z5 := Tryz.sizeOf5
 v5 := Tryz.zeroValue5
 infoByte := by kernel_rfl
 cellsByte := by kernel_rfl
 sizeByte := by kernel_rfl
 neB5 := by decide }
open Go.RowKit in
theorem Tryz.Builder_WriteByte_k (B b : Nat) (bs : List Value) (c : Int) (w : World) (h : Lib.IsBuilderF 79 5 B b bs w) (hlen : bs.length + 1 ≤ 140737488355328) (hBw : B ≤ w.heap.size) :
  Calls Tryz.prog 92 #[.pointer (some ⟨b, 0, none⟩), .int .u8 c] w fun e w' => e = .returned .nilIface ∧ (Lib.BuilderAtF 79 5 B b (.pointer (some ⟨b, 0, none⟩)) (bs ++ [.int .u8 c]) w' ∧ Below B w w' ∧ Lib.OthersKept 5 (some b) w w') := Any.Builder_WriteByte_k Tryz.lays167 Tryz.Builder_Extra_167 B b bs c w h hlen hBw
open Go.RowKit in
theorem Tryz.strings_TrimLeft_laid (s cutset : ByteArray) (w : World) (hcs : cutset.size < 4294967281) (hascii : ∀ (j : Nat) (b : UInt8), cutset.data.toList[j]? = some b → b.toNat < 128) :
  Calls Tryz.prog 126 #[.string s, .string cutset] w fun e w' => e = .returned (.string ⟨(Lib.trimLeftS s.data.toList cutset.data.toList).toArray⟩) ∧ Below w.heap.size w w' := Any.strings_TrimLeft_laid Tryz.lays161 (by kernel_rfl) s cutset w hcs hascii
open Go.RowKit in
theorem Tryz.strings_TrimRight_laid (s cutset : ByteArray) (w : World) (hs : s.size ≤ 9223372036854775807) (hcs : cutset.size < 4294967281) (hascii : ∀ (j : Nat) (b : UInt8), cutset.data.toList[j]? = some b → b.toNat < 128) :
  Calls Tryz.prog 135 #[.string s, .string cutset] w fun e w' => e = .returned (.string ⟨(Lib.trimRightS s.data.toList cutset.data.toList).toArray⟩) ∧ Below w.heap.size w w' := Any.strings_TrimRight_laid Tryz.lays162 (by kernel_rfl) s cutset w hs hcs hascii
end Go.Proofs
namespace Go.Proofs.YtmakhfekiieneaaGreatDoor
section
def val : List Nat → Nat
 | [] => 0
 | x :: r => x + 4294967296 * val r
def Ws (l : List Nat) : Prop := ∀ u ∈ l, u < 4294967296
def nrm : List Nat → List Nat
 | [] => []
 | x :: r => if x = 0 ∧ nrm r = [] then [] else x :: nrm r
theorem Ws.nil : Ws [] := fun u h => by simp at h
theorem Ws.cons {x : Nat} {r : List Nat} (hx : x < 4294967296) (h : Ws r) : Ws (x :: r) := fun u hu => by
 rcases List.mem_cons.1 hu with rfl | hu
 ·exact hx
 ·exact h u hu
theorem Ws.head {x : Nat} {r : List Nat} (h : Ws (x :: r)) : x < 4294967296 := h x (by simp)
theorem Ws.tail {x : Nat} {r : List Nat} (h : Ws (x :: r)) : Ws r := fun u hu => h u (by simp [hu])
theorem Ws.append {l m : List Nat} (h : Ws l) (g : Ws m) : Ws (l ++ m) := fun u hu => by
 rcases List.mem_append.1 hu with hu | hu
 ·exact h u hu
 ·exact g u hu
theorem Ws.take {l : List Nat} (h : Ws l) (n : Nat) : Ws (l.take n) := fun u hu => h u (List.mem_of_mem_take hu)
theorem Ws.drop {l : List Nat} (h : Ws l) (n : Nat) : Ws (l.drop n) := fun u hu => h u (List.mem_of_mem_drop hu)
theorem Ws.get {l : List Nat} (h : Ws l) {k u : Nat} (e : l[k]? = some u) : u < 4294967296 := h u (List.mem_of_getElem? e)
theorem Ws.getD {l : List Nat} (h : Ws l) (k : Nat) : l.getD k 0 < 4294967296 := by
 rw [List.getD_eq_getElem?_getD]
 cases e : l[k]? with
 | none => simp
 | some u => exact h.get e
theorem Acj : nrm [] = [] := rfl
theorem Xm {r : List Nat} (h : nrm r = []) : nrm (0 :: r) = [] := by simp [nrm, h]
theorem Dt {x : Nat} {r : List Nat} (h : ¬ (x = 0 ∧ nrm r = [])) : nrm (x :: r) = x :: nrm r := by rw [nrm, if_neg h]
theorem Ba : ∀ l : List Nat, (nrm l).length ≤ l.length
 | [] => by simp [nrm]
 | x :: r => by
  have := Ba r
  by_cases h : x = 0 ∧ nrm r = []
  ·simp [nrm, h]
  ·rw [Dt h]; simp; exact this
theorem Ws.nrm : ∀ {l : List Nat}, Ws l → Ws (nrm l)
 | [], h => h
 | x :: r, h => by
  by_cases g : x = 0 ∧ Go.Proofs.YtmakhfekiieneaaGreatDoor.nrm r = []
  ·rw [Go.Proofs.YtmakhfekiieneaaGreatDoor.nrm, if_pos g]; exact Ws.nil
  ·rw [Dt g]; exact Ws.cons h.head (Ws.nrm h.tail)
theorem Ij : ∀ l : List Nat, nrm l = l.take (nrm l).length
 | [] => rfl
 | x :: r => by
  by_cases h : x = 0 ∧ nrm r = []
  ·simp [nrm, h]
  ·rw [Dt h]; simp; exact Ij r
theorem Fb : ∀ l : List Nat, nrm (nrm l) = nrm l
 | [] => rfl
 | x :: r => by
  by_cases h : x = 0 ∧ nrm r = []
  ·simp [nrm, h]
  ·rw [Dt h, nrm, Fb r, if_neg h]
theorem Aq : ∀ l : List Nat, val (nrm l) = val l
 | [] => rfl
 | x :: r => by
  have := Aq r
  by_cases h : x = 0 ∧ nrm r = []
  ·rw [h.2] at this
   rw [nrm, if_pos h]
   simp only [val] at this ⊢
   omega
  ·rw [Dt h]; simp only [val, this]
theorem Cb : ∀ {l : List Nat}, val l = 0 → nrm l = []
 | [], _ => rfl
 | x :: r, h => by
  simp only [val] at h
  have h1 : x = 0 := by omega
  have h2 : val r = 0 := by omega
  rw [h1, Xm (Cb h2)]
theorem Ac0 : ∀ {l m : List Nat}, Ws l → Ws m → val l = val m → nrm l = nrm m
 | [], m, _, _, h => by rw [Acj, Cb (by rw [← h]; rfl)]
 | x :: r, [], _, _, h => by rw [Acj, Cb (by rw [h]; rfl)]
 | x :: r, y :: s, hl, hm, h => by
  have hx := hl.head
  have hy := hm.head
  simp only [val] at h
  have h1 : x = y := by omega
  have h2 : val r = val s := by omega
  have := Ac0 hl.tail hm.tail h2
  simp only [nrm, h1, this]
theorem Ok {l : List Nat} (h : nrm l = []) : val l = 0 := by rw [← Aq, h]; rfl
theorem Hr : ∀ l m : List Nat, val (l ++ m) = val l + 4294967296 ^ l.length * val m
 | [], m => by simp [val]
 | x :: r, m => by
  rw [List.cons_append, val, Hr r m, val, List.length_cons, Nat.pow_succ, Nat.mul_add, Nat.mul_comm (4294967296 ^ r.length) 4294967296, Nat.mul_assoc]
  omega
theorem Ha (n : Nat) : val (List.replicate n 0) = 0 := by
 induction n with
 | zero => rfl
 | succ n ih => rw [List.replicate_succ, val, ih]
theorem Ed : ∀ {l : List Nat}, Ws l → val l < 4294967296 ^ l.length
 | [], _ => by simp [val]
 | x :: r, h => by
  have h1 := h.head
  have h2 := Ed h.tail
  rw [val, List.length_cons, Nat.pow_succ]
  have : 4294967296 * (val r + 1) ≤ 4294967296 ^ r.length * 4294967296 := by rw [Nat.mul_comm]; exact Nat.mul_le_mul_right _ h2
  omega
theorem Jh : ∀ (l : List Nat) (n : Nat), n ≤ l.length → (∀ k, n ≤ k → k < l.length → l.getD k 0 = 0) → (n = 0 ∨ l.getD (n - 1) 0 ≠ 0) → nrm l = l.take n
 | [], n, hn, _, _ => by simp [nrm]
 | x :: r, 0, _, h0, _ => by
  have hx := h0 0 (by omega) (by simp)
  have hr := Jh r 0 (by omega) (fun k hk hl => by have := h0 (k + 1) (by omega) (by simp; omega); simpa using this) (.inl rfl)
  simp only [List.take_zero] at hr ⊢
  have hx' : x = 0 := by simpa using hx
  rw [hx', Xm hr]
 | x :: r, n + 1, hn, h0, hl => by
  have hn' : n ≤ r.length := by simpa using hn
  rcases hl with hl | hl
  ·omega
  ·cases n with
   | zero =>
    have hx : x ≠ 0 := by simpa using hl
    have hr := Jh r 0 (by omega) (fun k hk hl => by have := h0 (k + 1) (by omega) (by simp; omega); simpa using this) (.inl rfl)
    rw [Dt (fun h => hx h.1), hr]
    rfl
   | succ n =>
    have hr := Jh r (n + 1) hn' (fun k hk hl => by have := h0 (k + 1) (by omega) (by simp; omega); simpa using this) (.inr (by simpa using hl))
    have hne : nrm r ≠ [] := by
     rw [hr]
     intro e
     have := congrArg List.length e
     rw [List.length_take, List.length_nil] at this
     have := hn'
     omega
    rw [Dt (fun h => hne h.2), hr]
    rfl
theorem Ahl {l : List Nat} (h : nrm l ≠ []) : l.getD ((nrm l).length - 1) 0 ≠ 0 := by
 induction l with
 | nil => simp [nrm] at h
 | cons x r ih =>
  by_cases g : x = 0 ∧ nrm r = []
  ·rw [nrm, if_pos g] at h; exact absurd rfl h
  ·rw [Dt g]
   by_cases e : nrm r = []
   ·rw [e]; simp; exact fun hx => g ⟨hx, e⟩
   ·have := ih e
    have hp : 0 < (nrm r).length := List.length_pos_iff.2 e
    obtain ⟨k, hk⟩ : ∃ k, (nrm r).length = k + 1 := ⟨(nrm r).length - 1, by omega⟩
    rw [hk] at this
    simp [hk]
    simpa using this
theorem N7 {l : List Nat} (h : nrm l ≠ []) : 4294967296 ^ ((nrm l).length - 1) ≤ val l := by
 induction l with
 | nil => simp [nrm] at h
 | cons x r ih =>
  by_cases g : x = 0 ∧ nrm r = []
  ·rw [nrm, if_pos g] at h; exact absurd rfl h
  ·rw [Dt g, val]
   by_cases e : nrm r = []
   ·rw [e]; simp
    have : x ≠ 0 := fun hx => g ⟨hx, e⟩
    omega
   ·have := ih e
    have hp : 0 < (nrm r).length := List.length_pos_iff.2 e
    obtain ⟨k, hk⟩ : ∃ k, (nrm r).length = k + 1 := ⟨(nrm r).length - 1, by omega⟩
    rw [hk] at this
    simp only [List.length_cons, hk, Nat.add_sub_cancel] at this ⊢
    rw [Nat.pow_succ, Nat.mul_comm]
    have h3 : 4294967296 * 4294967296 ^ k ≤ 4294967296 * val r := Nat.mul_le_mul_left _ this
    omega
theorem Ln (l : List Nat) : val l = l.getD 0 0 + 4294967296 * val l.tail := by
 cases l with
 | nil => simp [val]
 | cons x r => simp [val]
theorem Et (l : List Nat) (j : Nat) : l.tail.getD j 0 = l.getD (j + 1) 0 := by
 cases l with
 | nil => simp
 | cons x r => simp
theorem Ws.tl {l : List Nat} (h : Ws l) : Ws l.tail := fun u hu => h u (List.mem_of_mem_tail hu)
theorem Acw : ∀ (n : Nat) (l m : List Nat), l.length ≤ n → m.length ≤ n → (∀ j, l.getD j 0 = m.getD j 0) → val l = val m
 | 0, l, m, hl, hm, _ => by
  rw [List.eq_nil_of_length_eq_zero (by omega : l.length = 0), List.eq_nil_of_length_eq_zero (by omega : m.length = 0)]
 | n + 1, l, m, hl, hm, h => by
  rw [Ln l, Ln m, h 0, Acw n l.tail m.tail (by rw [List.length_tail]; omega) (by rw [List.length_tail]; omega) (fun j => by rw [Et, Et, h])]
theorem K9 {l m : List Nat} (h : ∀ j, l.getD j 0 = m.getD j 0) : val l = val m := Acw (l.length + m.length) l m (by omega) (by omega) h
theorem O7 : ∀ (i : Nat) (l m : List Nat), Ws l → Ws m → (∀ j, i < j → l.getD j 0 = m.getD j 0) → l.getD i 0 < m.getD i 0 → val l < val m
 | 0, l, m, _, _, h, hlt => by
  rw [Ln l, Ln m, K9 (l := l.tail) (m := m.tail) (fun j => by rw [Et, Et, h (j + 1) (by omega)])]
  omega
 | i + 1, l, m, hl, hm, h, hlt => by
  have ih := O7 i l.tail m.tail hl.tl hm.tl (fun j hj => by rw [Et, Et, h (j + 1) (by omega)]) (by rw [Et, Et]; exact hlt)
  have h1 : l.getD 0 0 < 4294967296 := by
   rw [List.getD_eq_getElem?_getD]
   cases e : l[0]? with
   | none => simp
   | some u => exact hl.get e
  rw [Ln l, Ln m]
  omega
theorem No {l m : List Nat} (hl : Ws l) (h : (nrm l).length < (nrm m).length) : val l < val m := by
 have h1 := Ed hl.nrm
 rw [Aq] at h1
 have h2 := N7 (l := m) (fun e => by rw [e] at h; simp at h)
 have h3 : 4294967296 ^ (nrm l).length ≤ 4294967296 ^ ((nrm m).length - 1) := Nat.pow_le_pow_right (by omega) (by omega)
 omega
def Re : Nat → Nat → List Nat
 | 0, _ => []
 | f + 1, n => if n = 0 then [] else n % 4294967296 :: Re f (n / 4294967296)
def wds (n : Nat) : List Nat := Re n n
theorem Adc : ∀ f n : Nat, Ws (Re f n)
 | 0, _ => Ws.nil
 | f + 1, n => by
  unfold Re
  split
  ·exact Ws.nil
  ·exact Ws.cons (by omega) (Adc f _)
theorem Ax (n : Nat) : Ws (wds n) := Adc n n
theorem Pq : ∀ f n : Nat, n ≤ f → val (Re f n) = n
 | 0, n, h => by simp [Re, val]; omega
 | f + 1, n, h => by
  unfold Re
  split
  ·next h0 => rw [h0]; rfl
  ·next h0 => rw [val, Pq f (n / 4294967296) (by omega)]; omega
theorem Ad (n : Nat) : val (wds n) = n := Pq n n (Nat.le_refl _)
theorem Yg : ∀ f n : Nat, n ≤ f → nrm (Re f n) = Re f n
 | 0, _, _ => rfl
 | f + 1, n, h => by
  unfold Re
  split
  ·rfl
  ·next h0 =>
   rw [Dt, Yg f (n / 4294967296) (by omega)]
   rintro ⟨h1, h2⟩
   have h3 := Ok h2
   rw [Pq f (n / 4294967296) (by omega)] at h3
   omega
theorem I8 (n : Nat) : nrm (wds n) = wds n := Yg n n (Nat.le_refl _)
theorem Bh {l : List Nat} (h : Ws l) : nrm l = wds (val l) := by
 rw [← I8 (val l)]
 exact Ac0 h (Ax _) (Ad _).symm
theorem Aie : wds 0 = [] := rfl
theorem Bi {n k : Nat} (h : n < 4294967296 ^ k) : (wds n).length ≤ k := by
 rcases Nat.lt_or_ge k (wds n).length with h1 | h1
 ·have h2 := N7 (l := wds n) (by rw [I8]; intro e; rw [e] at h1; simp at h1)
  rw [I8, Ad] at h2
  have h3 : 4294967296 ^ k ≤ 4294967296 ^ ((wds n).length - 1) := Nat.pow_le_pow_right (by omega) (by omega)
  omega
 ·exact h1
theorem Fx (n : Nat) : n < 4294967296 ^ (wds n).length := by
 have := Ed (Ax n)
 rw [Ad] at this
 exact this
/-! ### part by part -/
theorem Gd (l : List Nat) (y : Nat) : val (l ++ [y]) = val l + 4294967296 ^ l.length * y := by rw [Hr]; simp [val]
theorem Br (l : List Nat) (k : Nat) (h : k < l.length) : val (l.take (k + 1)) = val (l.take k) + 4294967296 ^ k * l.getD k 0 := by
 have e : l[k] = l.getD k 0 := by rw [List.getD_eq_getElem?_getD, List.getElem?_eq_getElem h]; rfl
 have hk : (l.take k).length = k := by rw [List.length_take]; omega
 rw [List.take_succ_eq_append_getElem h, Gd, hk, e]
theorem Gg (l : List Nat) (i k : Nat) (h : i ≤ l.length) : val (l.take (i + k)) = val (l.take i) + 4294967296 ^ i * val ((l.drop i).take k) := by
 have hi : (l.take i).length = i := by rw [List.length_take]; omega
 rw [List.take_add, Hr, hi]
theorem Dl (l : List Nat) (i j : Nat) : (l.drop i).getD j 0 = l.getD (i + j) 0 := by
 rw [List.getD_eq_getElem?_getD, List.getD_eq_getElem?_getD, List.getElem?_drop]
theorem Lf {l : List Nat} {k j : Nat} (h : j < k) : (l.take k).getD j 0 = l.getD j 0 := by
 rw [List.getD_eq_getElem?_getD, List.getD_eq_getElem?_getD, List.getElem?_take, if_pos h]
theorem Bb {l : List Nat} {k y : Nat} (h : k < l.length) : (l.set k y).getD k 0 = y := by
 rw [List.getD_eq_getElem?_getD, List.getElem?_set_self h]; rfl
theorem Ao {l : List Nat} {k j y : Nat} (h : k ≠ j) : (l.set k y).getD j 0 = l.getD j 0 := by
 rw [List.getD_eq_getElem?_getD, List.getD_eq_getElem?_getD, List.getElem?_set_ne h]
theorem Ws.set {l : List Nat} (h : Ws l) {k y : Nat} (hy : y < 4294967296) : Ws (l.set k y) := fun u hu => by
 rcases List.mem_or_eq_of_mem_set hu with h1 | h1
 ·exact h u h1
 ·rw [h1]; exact hy
theorem Cn {l m : List Nat} (k : Nat) (hl : k ≤ l.length) (hm : k ≤ m.length) (h : ∀ j, j < k → l.getD j 0 = m.getD j 0) : l.take k = m.take k := by
 apply List.ext_getElem?
 intro j
 rw [List.getElem?_take, List.getElem?_take]
 split
 ·next hj =>
  have := h j hj
  rw [List.getElem?_eq_getElem (by omega), List.getElem?_eq_getElem (by omega)]
  rw [List.getD_eq_getElem?_getD, List.getD_eq_getElem?_getD, List.getElem?_eq_getElem (by omega), List.getElem?_eq_getElem (by omega)] at this
  exact congrArg some this
 ·rfl
theorem E8 {l m : List Nat} (i k : Nat) (hl : i + k ≤ l.length) (hm : i + k ≤ m.length) (h : ∀ j, i ≤ j → j < i + k → l.getD j 0 = m.getD j 0) : (l.drop i).take k = (m.drop i).take k :=
 Cn k (by rw [List.length_drop]; omega) (by rw [List.length_drop]; omega) (fun j hj => by rw [Dl, Dl]; exact h _ (by omega) (by omega))
theorem Bd (l : List Nat) (i k : Nat) (h : i + k < l.length) : val ((l.drop i).take (k + 1)) = val ((l.drop i).take k) + 4294967296 ^ k * l.getD (i + k) 0 := by
 rw [Br (l.drop i) k (by rw [List.length_drop]; omega), Dl]
theorem Uf {l : List Nat} (h : ∀ j, l.getD j 0 = 0) : val l = 0 := by
 have := K9 (l := l) (m := []) (fun j => by rw [h]; simp)
 rw [this]; rfl
theorem Ps (l : List Nat) (k : Nat) (hz : ∀ j, k ≤ j → l.getD j 0 = 0) : val l = val (l.take k) := by
 refine K9 (fun j => ?_)
 by_cases h : j < k
 ·rw [Lf h]
 ·rw [hz j (by omega)]
  rw [List.getD_eq_getElem?_getD, List.getElem?_eq_none (by rw [List.length_take]; omega)]; rfl
theorem Gc (P t v w : Nat) (h : v + P * t = w) : (v + P * (t % 4294967296)) + (P * 4294967296) * (t / 4294967296) = w := by
 have := Nat.mod_add_div t 4294967296
 grind
theorem Av (l : List Nat) (k : Nat) : val (l.take (k + 1)) = val (l.take k) + 4294967296 ^ k * l.getD k 0 := by
 rcases Nat.lt_or_ge k l.length with h | h
 ·exact Br l k h
 ·rw [List.take_of_length_le (by omega), List.take_of_length_le h, List.getD_eq_getElem?_getD, List.getElem?_eq_none h]; simp
theorem Be {l : List Nat} {k : Nat} (h : l.length ≤ k) : val (l.take k) = val l := by rw [List.take_of_length_le h]
structure SumT (a b : List Nat) (k : Nat) (S : List Nat) (c : Nat) : Prop where
 ws : Ws S
 sum : val (S.take k) + 4294967296 ^ k * c = val (a.take k) + val (b.take k)
 low : c ≤ 1
theorem SumT.start (a b S : List Nat) (h : Ws S) : SumT a b 0 S 0 := ⟨h, by simp [val], by omega⟩
def Xk (a b : List Nat) (k c : Nat) : Nat := a.getD k 0 + b.getD k 0 + c
theorem Up {a b : List Nat} {k c : Nat} (ha : Ws a) (hb : Ws b) (hc : c ≤ 1) : Xk a b k c < 8589934592 := by
 have h1 := ha.getD k
 have h2 := hb.getD k
 unfold Xk
 omega
theorem SumT.next {a b : List Nat} {k : Nat} {S T : List Nat} {c : Nat} (h : SumT a b k S c) (ha : Ws a) (hb : Ws b) (hT : Ws T) (e1 : T.take k = S.take k) (e2 : T.getD k 0 = Xk a b k c % 4294967296) :
  SumT a b (k + 1) T (Xk a b k c / 4294967296) := by
 have hlt := Up (k := k) ha hb h.low
 refine ⟨hT, ?_, by omega⟩
 have hs := h.sum
 rw [Av T k, e1, e2, Av a k, Av b k]
 have e := Gc (4294967296 ^ k) (Xk a b k c) (val (S.take k)) (val (a.take k) + 4294967296 ^ k * a.getD k 0 + (val (b.take k) + 4294967296 ^ k * b.getD k 0)) (by unfold Xk; grind)
 rw [Nat.pow_succ]
 exact e
theorem Aa1 {P Q va vb vS c : Nat} (h1 : va < P) (h2 : vb < P) (h3 : 2 * P ≤ Q) (hs : vS + Q * c = va + vb) : vS = va + vb := by
 rcases Nat.eq_zero_or_pos c with h0 | h0
 ·rw [h0, Nat.mul_zero] at hs; omega
 ·have h6 : Q * 1 ≤ Q * c := Nat.mul_le_mul_left _ h0
  omega
theorem Lv (n : Nat) : 2 * 4294967296 ^ n ≤ 4294967296 ^ (n + 1) := by
 rw [Nat.pow_succ, Nat.mul_comm]
 exact Nat.mul_le_mul_left _ (by omega)
theorem SumT.whole {a b : List Nat} {n : Nat} {S : List Nat} {c : Nat} (h : SumT a b (n + 1) S c) (ha : Ws a) (hb : Ws b) (hn : a.length ≤ n) (hm : b.length ≤ n) (hS : S.length = n + 1) : val S = val a + val b := by
 have hs := h.sum
 rw [Be (Nat.le_of_eq hS), Be (Nat.le_succ_of_le hn), Be (Nat.le_succ_of_le hm)] at hs
 exact Aa1 (Nat.lt_of_lt_of_le (Ed ha) (Nat.pow_le_pow_right (by omega) hn)) (Nat.lt_of_lt_of_le (Ed hb) (Nat.pow_le_pow_right (by omega) hm)) (Lv n) hs
theorem SumT.end_ {a b : List Nat} {k : Nat} {S : List Nat} {c : Nat} (h : SumT a b k S c) (hn : a.length ≤ k) (hm : b.length ≤ k) (hS : S.length = k) : Ws (S ++ [c]) ∧ val (S ++ [c]) = val a + val b := by
 have hs := h.sum
 rw [Be (by omega), Be hn, Be hm] at hs
 refine ⟨h.ws.append (Ws.cons (by have := h.low; omega) Ws.nil), ?_⟩
 rw [Gd, hS]
 exact hs
theorem Vj {P va vb vS c : Nat} (h1 : vS < P) (h2 : vb ≤ va) (hs : vS + vb = va + P * c) : vS = va - vb := by
 rcases Nat.eq_zero_or_pos c with h0 | h0
 ·rw [h0, Nat.mul_zero] at hs; omega
 ·have h6 : P * 1 ≤ P * c := Nat.mul_le_mul_left _ h0
  omega
structure SubT (a b : List Nat) (k : Nat) (S : List Nat) (c : Nat) : Prop where
 ws : Ws S
 sum : val (S.take k) + val (b.take k) = val (a.take k) + 4294967296 ^ k * c
 low : c ≤ 1
theorem SubT.start (a b S : List Nat) (h : Ws S) : SubT a b 0 S 0 := ⟨h, by simp [val], by omega⟩
def Xn (a b : List Nat) (k c : Nat) : Nat := (a.getD k 0 + 4294967296 * 2 - b.getD k 0 - c) % 4294967296
def Abr (a b : List Nat) (k c : Nat) : Nat := if a.getD k 0 < b.getD k 0 + c then 1 else 0
theorem SubT.next {a b : List Nat} {k : Nat} {S T : List Nat} {c : Nat} (h : SubT a b k S c) (ha : Ws a) (hb : Ws b) (hT : Ws T) (e1 : T.take k = S.take k) (e2 : T.getD k 0 = Xn a b k c) :
  SubT a b (k + 1) T (Abr a b k c) := by
 have h1 := ha.getD k
 have h2 := hb.getD k
 have h3 := h.low
 have hs := h.sum
 refine ⟨hT, ?_, by unfold Abr; split <;> omega⟩
 rw [Av T k, e1, e2, Av a k, Av b k]
 have key : Xn a b k c + b.getD k 0 + c = a.getD k 0 + 4294967296 * Abr a b k c := by
  unfold Xn Abr
  split <;> omega
 rw [Nat.pow_succ]
 have : 4294967296 ^ k * (Xn a b k c + b.getD k 0 + c) = 4294967296 ^ k * (a.getD k 0 + 4294967296 * Abr a b k c) := by rw [key]
 grind
theorem SubT.whole {a b : List Nat} {n : Nat} {S : List Nat} {c : Nat} (h : SubT a b n S c) (hn : a.length ≤ n) (hm : b.length ≤ n) (hS : S.length = n) (hle : val b ≤ val a) : val S = val a - val b := by
 have hs := h.sum
 rw [Be (by omega), Be hn, Be hm] at hs
 have h1 := Ed h.ws
 rw [hS] at h1
 exact Vj h1 hle hs
theorem Ec {s : Nat} (hs : s ≤ 32) : 2 ^ s * 2 ^ (32 - s) = 4294967296 := by
 rw [← Nat.pow_add, show s + (32 - s) = 32 by omega]
def E5 (a : List Nat) (s k : Nat) : Nat := if k = 0 then 0 else a.getD (k - 1) 0 / 2 ^ (32 - s)
def Jv (a : List Nat) (s k : Nat) : Nat := a.getD k 0 * 2 ^ s % 4294967296 + E5 a s k
theorem L8 (x s : Nat) (hs : s ≤ 32) : x * 2 ^ s / 4294967296 = x / 2 ^ (32 - s) := by
 rw [← Ec hs, Nat.mul_comm x, Nat.mul_div_mul_left _ _ (Nat.two_pow_pos s)]
theorem Fm (x s : Nat) (hs : s ≤ 32) : x * 2 ^ s % 4294967296 = 2 ^ s * (x % 2 ^ (32 - s)) := by
 rw [← Ec hs, Nat.mul_comm x, Nat.mul_mod_mul_left]
theorem Jt (y s : Nat) (hs : s ≤ 32) (hy : y < 4294967296) : y / 2 ^ (32 - s) < 2 ^ s := by
 rw [Nat.div_lt_iff_lt_mul (Nat.two_pow_pos _), Ec hs]; exact hy
theorem Ala (x y s : Nat) (hs : s ≤ 32) (hy : y < 4294967296) : (x * 2 ^ s % 4294967296) ||| (y / 2 ^ (32 - s)) = x * 2 ^ s % 4294967296 + y / 2 ^ (32 - s) := by
 rw [Fm x s hs, Nat.two_pow_add_eq_or_of_lt (Jt y s hs hy)]
theorem Tx (x y s : Nat) (hs : s ≤ 32) (hy : y < 4294967296) : x * 2 ^ s % 4294967296 + y / 2 ^ (32 - s) < 4294967296 := by
 have h1 := Jt y s hs hy
 have h2 : x % 2 ^ (32 - s) < 2 ^ (32 - s) := Nat.mod_lt _ (Nat.two_pow_pos _)
 rw [Fm x s hs]
 have h3 : 2 ^ s * (x % 2 ^ (32 - s) + 1) ≤ 2 ^ s * 2 ^ (32 - s) := Nat.mul_le_mul_left _ h2
 rw [Ec hs, Nat.mul_add, Nat.mul_one] at h3
 omega
theorem Acv {a : List Nat} (ha : Ws a) (s k : Nat) (hs : s ≤ 32) : Jv a s k < 4294967296 := by
 unfold Jv E5
 split
 ·omega
 ·exact Tx _ _ s hs (ha.getD _)
structure ShlP (R : List Nat) (o : Nat) (a : List Nat) (s k : Nat) (S : List Nat) : Prop where
 len : S.length = R.length
 ws : Ws S
 far : ∀ j, j < o ∨ o + k ≤ j → S.getD j 0 = R.getD j 0
 sum : val ((S.drop o).take k) + 4294967296 ^ k * E5 a s k = 2 ^ s * val (a.take k)
theorem ShlP.start {R : List Nat} (o : Nat) (a : List Nat) (s : Nat) (hR : Ws R) : ShlP R o a s 0 R := ⟨rfl, hR, fun _ _ => rfl, by simp [val, E5]⟩
theorem ShlP.next {R : List Nat} {o : Nat} {a : List Nat} {s k : Nat} {S : List Nat} (h : ShlP R o a s k S) (ha : Ws a) (hs : s ≤ 32) (ho : o + k < R.length) :
  ShlP R o a s (k + 1) (S.set (o + k) (Jv a s k)) := by
 obtain ⟨h1, h2, h3, h4⟩ := h
 refine ⟨by rw [List.length_set]; exact h1, h2.set (Acv ha s k hs), fun j hj => by rw [Ao (by omega), h3 j (by omega)], ?_⟩
 rw [Bd _ o k (by rw [List.length_set]; omega), Av a k, Bb (by omega)]
 rw [E8 (l := S.set (o + k) (Jv a s k)) (m := S) o k (by rw [List.length_set]; omega) (by omega) (fun j _ hj => Ao (by omega))]
 have e1 : E5 a s (k + 1) = a.getD k 0 * 2 ^ s / 4294967296 := by
  unfold E5; rw [if_neg (by omega), Nat.add_sub_cancel, L8 _ s hs]
 have e := Gc (4294967296 ^ k) (a.getD k 0 * 2 ^ s) (val ((S.drop o).take k) + 4294967296 ^ k * E5 a s k) (2 ^ s * (val (a.take k) + 4294967296 ^ k * a.getD k 0)) (by rw [h4]; grind)
 rw [e1, Nat.pow_succ]
 unfold Jv
 grind
theorem ShlP.whole {R : List Nat} {o : Nat} {a : List Nat} {s n : Nat} {S : List Nat} (h : ShlP R o a s n S) (hn : a.length < n) : val ((S.drop o).take n) = 2 ^ s * val a := by
 have h4 := h.sum
 have e : E5 a s n = 0 := by
  unfold E5
  split
  ·rfl
  ·rw [List.getD_eq_getElem?_getD, List.getElem?_eq_none (by omega)]; simp
 rw [e, Nat.mul_zero, Nat.add_zero, Be (l := a) (by omega)] at h4
 exact h4
def Hg (a : List Nat) (s k : Nat) : Nat := a.getD (k + 1) 0 * 2 ^ (32 - s) % 4294967296 + a.getD k 0 / 2 ^ s
theorem Acm {a : List Nat} (ha : Ws a) (s k : Nat) (hs : s ≤ 32) : Hg a s k < 4294967296 := by
 unfold Hg
 have := Tx (a.getD (k + 1) 0) (a.getD k 0) (32 - s) (by omega) (ha.getD k)
 rw [show 32 - (32 - s) = s by omega] at this
 exact this
structure ShrP (R : List Nat) (o : Nat) (a : List Nat) (s k : Nat) (S : List Nat) : Prop where
 len : S.length = R.length
 ws : Ws S
 far : ∀ j, j < o ∨ o + k ≤ j → S.getD j 0 = R.getD j 0
 sum : 2 ^ s * val ((S.drop o).take k) + a.getD 0 0 % 2 ^ s = val (a.take k) + 4294967296 ^ k * (a.getD k 0 % 2 ^ s)
theorem ShrP.start {R : List Nat} (o : Nat) (a : List Nat) (s : Nat) (hR : Ws R) : ShrP R o a s 0 R := ⟨rfl, hR, fun _ _ => rfl, by simp [val]⟩
theorem Ox (a : List Nat) (s k : Nat) (hs : s ≤ 32) : 2 ^ s * Hg a s k + a.getD k 0 % 2 ^ s = a.getD k 0 + 4294967296 * (a.getD (k + 1) 0 % 2 ^ s) := by
 have h1 := Nat.div_add_mod (a.getD k 0) (2 ^ s)
 have h2 := Fm (a.getD (k + 1) 0) (32 - s) (by omega)
 rw [show 32 - (32 - s) = s by omega] at h2
 have h3 := Ec hs
 unfold Hg
 rw [h2, ← h3]
 generalize 2 ^ s = P at *
 generalize 2 ^ (32 - s) = Q at *
 generalize a.getD (k + 1) 0 % P = z at *
 have e : P * (Q * z + a.getD k 0 / P) = P * Q * z + P * (a.getD k 0 / P) := by rw [Nat.mul_add, Nat.mul_assoc]
 omega
theorem ShrP.next {R : List Nat} {o : Nat} {a : List Nat} {s k : Nat} {S : List Nat} (h : ShrP R o a s k S) (ha : Ws a) (hs : s ≤ 32) (ho : o + k < R.length) :
  ShrP R o a s (k + 1) (S.set (o + k) (Hg a s k)) := by
 obtain ⟨h1, h2, h3, h4⟩ := h
 refine ⟨by rw [List.length_set]; exact h1, h2.set (Acm ha s k hs), fun j hj => by rw [Ao (by omega), h3 j (by omega)], ?_⟩
 rw [Bd _ o k (by rw [List.length_set]; omega), Av a k, Bb (by omega)]
 rw [E8 (l := S.set (o + k) (Hg a s k)) (m := S) o k (by rw [List.length_set]; omega) (by omega) (fun j _ hj => Ao (by omega))]
 have e := Ox a s k hs
 rw [Nat.pow_succ]
 generalize 4294967296 ^ k = K at *
 generalize Hg a s k = W at *
 have e2 : K * (2 ^ s * W + a.getD k 0 % 2 ^ s) = K * (a.getD k 0 + 4294967296 * (a.getD (k + 1) 0 % 2 ^ s)) := by rw [e]
 grind
theorem ShrP.whole {R : List Nat} {o : Nat} {a : List Nat} {s n : Nat} {S : List Nat} (h : ShrP R o a s n S) (hn : a.length ≤ n) : val ((S.drop o).take n) = val a / 2 ^ s := by
 have h4 := h.sum
 have e : a.getD n 0 = 0 := by rw [List.getD_eq_getElem?_getD, List.getElem?_eq_none hn]; rfl
 rw [e, Nat.zero_mod, Nat.mul_zero, Nat.add_zero, Be (l := a) hn] at h4
 rw [← h4, Nat.add_comm, Nat.add_mul_div_left _ _ (Nat.two_pow_pos s), Nat.div_eq_of_lt (Nat.mod_lt _ (Nat.two_pow_pos s)), Nat.zero_add]
def RW (w : World) (B : Nat) (A : Option Addr) (l : List Nat) : Prop :=
 Ws l ∧ (0 < l.length → ∃ b off, A = some ⟨b, off, none⟩ ∧ b < B ∧ ∀ k u : Nat, l[k]? = some u → w.cell? ⟨b, off + k, none⟩ = some (.int .u32 (u : Int)))
def Sl (w : World) (B : Nat) (v : Value) (l : List Nat) : Prop := ∃ A c, v = .slice A l.length c ∧ l.length ≤ c ∧ RW w B A l
theorem RW.nil (w : World) (B : Nat) (A : Option Addr) : RW w B A [] := ⟨Ws.nil, fun h => by simp at h⟩
theorem RW.keep {w w' : World} {B : Nat} {A : Option Addr} {l : List Nat} (h : RW w B A l) (hk : ∀ p : Addr, p.block < B → w'.cell? p = w.cell? p) : RW w' B A l := ⟨h.1, fun hl => by
 obtain ⟨b, off, e, hb, hc⟩ := h.2 hl
 exact ⟨b, off, e, hb, fun k u hu => (hk ⟨b, off + k, none⟩ hb).trans (hc k u hu)⟩⟩
theorem RW.more {w : World} {B C : Nat} {A : Option Addr} {l : List Nat} (h : RW w B A l) (hB : B ≤ C) : RW w C A l := ⟨h.1, fun hl => by
 obtain ⟨b, off, e, hb, hc⟩ := h.2 hl
 exact ⟨b, off, e, by omega, hc⟩⟩
theorem RW.below {w w' : World} {B : Nat} {A : Option Addr} {l : List Nat} (h : RW w B A l) (hb : Below B w w') : RW w' B A l := h.keep fun _ hp => hb.cell hp
theorem RW.drewN {w : World} {B : Nat} {A : Option Addr} {l : List Nat} (h : RW w B A l) (n : Nat) : RW (w.drewN n) B A l := h
theorem RW.take {w : World} {B : Nat} {A : Option Addr} {l : List Nat} (h : RW w B A l) (n : Nat) : RW w B A (l.take n) := ⟨h.1.take n, fun hl => by
 obtain ⟨b, off, e, hb, hc⟩ := h.2 (by rw [List.length_take] at hl; omega)
 refine ⟨b, off, e, hb, fun k u hu => hc k u ?_⟩
 rw [List.getElem?_take] at hu
 split at hu
 ·exact hu
 ·cases hu⟩
theorem RW.step {w w' : World} {A : Option Addr} {l : List Nat} (h : RW w w.heap.size A l) (hb : Below w.heap.size w w') : RW w' w'.heap.size A l := (h.below hb).more hb.size
theorem getD_some {l : List Nat} {k : Nat} (h : k < l.length) : l[k]? = some (l.getD k 0) := by
 rw [List.getD_eq_getElem?_getD, List.getElem?_eq_getElem h]; rfl
theorem F7 {l : List Nat} {k : Nat} (h : l.length ≤ k) : l.getD k 0 = 0 := by
 rw [List.getD_eq_getElem?_getD, List.getElem?_eq_none h]; rfl
theorem Sl.nil (w : World) (B c : Nat) : Sl w B (.slice none 0 c) [] := ⟨none, c, rfl, Nat.zero_le _, RW.nil _ _ _⟩
theorem Sl.mk {w : World} {B n c : Nat} {A : Option Addr} {l : List Nat} (hn : l.length = n) (hc : n ≤ c) (h : RW w B A l) : Sl w B (.slice A n c) l := ⟨A, c, by rw [hn], by omega, h⟩
theorem Ae {B : Nat} {a w : World} (h : Below B a w) (n : Nat) : Below B a (w.drewN n) := ⟨h.os, h.tape, h.output, h.size, h.block⟩
theorem Aa {W w w' : World} (h : Below W.heap.size W w) (h2 : Below w.heap.size w w') : Below W.heap.size W w' := h.trans (h2.mono h.size)
theorem He {a b : Bool} (h : a = b) : Ending.returned (.bool a) = .returned (.bool b) := by rw [h]
theorem Fh {a b : Int} (h : a = b) : Ending.returned (.int .i64 a) = .returned (.int .i64 b) := by rw [h]
theorem Akz (A : Option Addr) (c : Nat) (w : World) : Cq 218 #[.slice A 0 c] (.slice A 0 0) w := by
 go_enter Tryz.func218, Tryz.ntmps218
 go_wp2
 go_loop [3] (fun i => i = .int .i64 0) (fun _ => 0)
 case atStart => exact rfl
 case round =>
  obtain rfl := hrel
  go_wp2
  go_ret
  exact ⟨rfl, rfl⟩
theorem Ak9 (b off n c : Nat) (l : List Nat) (w : World) (hn : l.length = n) (hc : n ≤ c) (hm : n ≤ 35184372088832) (h : ∀ k u : Nat, l[k]? = some u → w.cell? ⟨b, off + k, none⟩ = some (.int .u32 (u : Int))) :
  Cq 218 #[.slice (some ⟨b, off, none⟩) n c] (.slice (some ⟨b, off, none⟩) (nrm l).length (nrm l).length) w := by
 have HN := Lh hn
 have HC := Lh h
 have hm1 : (n : Int) ≤ 35184372088832 := by omega
 have hc1 : (n : Int) ≤ (c : Int) := by omega
 clear hn h
 go_enter Tryz.func218, Tryz.ntmps218
 go_wp2
 go_loop [3] (fun i => ∃ k : Nat, i = .int .i64 k ∧ k ≤ n ∧ Hid (∀ j, k ≤ j → j < l.length → l.getD j 0 = 0)) (fun i => (intOf i).toNat)
 case atStart => exact ⟨n, rfl, Nat.le_refl _, Lh (fun j h1 h2 => by have := HN.out; omega)⟩
 case round =>
  obtain ⟨k, rfl, hk, HZ⟩ := hrel
  by_cases h0 : k = 0
  ·have HE := Lh (show (nrm l).length = k by rw [Jh l k (by have := HN.out; omega) HZ.out (.inl h0), List.length_take]; omega)
   subst h0
   go_wp2
   go_ret
   rw [HE.out]
   exact ⟨rfl, rfl⟩
  ·obtain ⟨j, rfl⟩ : ∃ j, k = j + 1 := ⟨k - 1, by omega⟩
   have hj : j < l.length := by have := HN.out; omega
   have hcell := HC.out j _ (getD_some hj)
   have h1 : (j : Int) < (n : Int) := by omega
   by_cases hz : l.getD j 0 = 0
   ·rw [hz] at hcell
    have HZ2 := Lh (show ∀ i, j ≤ i → i < l.length → l.getD i 0 = 0 from fun i h2 h3 => by
     by_cases h4 : i = j
     ·rw [h4]; exact hz
     ·exact HZ.out i (by omega) h3)
    clear hz hj
    go_wp2
    go_round
    case rel => exact ⟨j, by go_num, by omega, HZ2⟩
    case measure => simp [intOf]
   ·have HE := Lh (show (nrm l).length = j + 1 by rw [Jh l (j + 1) (by omega) HZ.out (.inr (by simpa using hz)), List.length_take]; omega)
    obtain ⟨u, hu⟩ : ∃ u, l.getD j 0 = u := ⟨_, rfl⟩
    rw [hu] at hcell hz
    have hz' : ((u : Int) == 0) = false := by simp; omega
    have hjc : (j : Int) + 1 ≤ (c : Int) := by omega
    clear hu hj
    go_wp2
    go_ret
    rw [HE.out]
    exact ⟨rfl, rfl⟩
theorem As (A : Option Addr) (n c : Nat) (l : List Nat) (B : Nat) (w : World) (hn : l.length = n) (hc : n ≤ c) (hm : n ≤ 35184372088832) (h : RW w B A l) :
  Cq 218 #[.slice A n c] (.slice A (nrm l).length (nrm l).length) w := by
 rcases Nat.eq_zero_or_pos n with h0 | h0
 ·subst h0
  obtain rfl : l = [] := List.eq_nil_of_length_eq_zero hn
  exact Akz A c w
 ·obtain ⟨b, off, rfl, _, hcell⟩ := h.2 (by omega)
  exact Ak9 b off n c l w hn hc hm hcell
theorem RW.nrm {w : World} {B : Nat} {A : Option Addr} {l : List Nat} (h : RW w B A l) : RW w B A (nrm l) := by rw [Ij]; exact h.take _
theorem Ef : (Tryz.prog.info? 129).map (fun i => (i.zero, i.size, i.bytes)) = some (some (.int .u32 0), 1, 4) := by kernel_rfl
abbrev OwnW (B : Nat) (l : List Nat) (v : Value) (w : World) : Prop := w.ownsRow B 129 1 v l.length (l.map fun u => Value.int .u32 (u : Nat))
theorem OwnW.nil (B : Nat) (w : World) : OwnW B [] (.slice none 0 0) w := World.ownsRow_nil _ _ _ _
theorem OwnW.sl {B : Nat} {l : List Nat} {v : Value} {w : World} (h : OwnW B l v w) (hw : Ws l) : Sl w w.heap.size v l := by
 rcases h.2 with ⟨rfl, h0⟩ | ⟨g, cap, cur, rfl, hB, hg, hcap, hmax, hcur, htk⟩
 ·obtain rfl : l = [] := List.eq_nil_of_length_eq_zero h0
  exact Sl.nil _ _ _
 ·refine ⟨_, cap, rfl, hcap, hw, fun hl => ⟨g, 0, rfl, (World.ownsRow.lt h g rfl).2, fun k u hu => ?_⟩⟩
  have := h.cells (g := g) rfl k (.int .u32 (u : Nat)) (by rw [List.getElem?_map, hu]; rfl)
  by_cases hz : k = 0
  ·subst hz; simpa [Addr.add] using this
  ·simpa [Addr.add, hz] using this
theorem Mp {P : Program} {w : World} (base : Nat) (t ty e : TypeId) (i : TypeInfo) (ht : P.underlying t = some (.slice e)) (hi : P.info? e = some i)
  (v : Value) (n : Nat) (xs : List Value) (size : Nat) (hown : w.ownsRow base e size v n xs) (c : Nat) : (Builtin.append_ #[t, t] ty #[v, .slice none 0 c]).run P w = .ok v w := by
 rcases hown.2 with ⟨rfl, rfl⟩ | ⟨g, cap, cur, rfl, _, _, hnc, _⟩
 ·simp [Builtin.append_, run_underlying ht, sizeOf, typeInfo, hi, Builtin.lenOf, Builtin.firstCells]
 ·simp [Builtin.append_, run_underlying ht, sizeOf, typeInfo, hi, Builtin.lenOf, Builtin.firstCells, hnc, storeCells]
theorem Pg {P : Program} {w : World} {ops : Array Oper} {rest : List Oper} {o : Oper} {a : Act} {Q : Exit → Act → World → Prop} (hgd : o.guard = none) (s x : Operand) (t : TypeId)
  (ho : o.op = .call { callee := .builtin .append, args := #[s, x], argTypes := #[t, t] })
  (base : Nat) (e : TypeId) (i : TypeInfo) (size : Nat) (ht : P.underlying t = some (.slice e)) (hi : P.info? e = some i)
  (v : Value) (n : Nat) (xs : List Value) (c : Nat) (hs : a.eval s = v) (hown : w.ownsRow base e size v n xs) (hx : a.eval x = .slice none 0 c)
  (h : wpList P ops Q rest (a.put o.dst v) w) : wpList P ops Q (o :: rest) a w := by
 refine wpList_plain hgd fun K hK => ?_
 have hrun := Mp (P := P) (w := w) base t o.type e i ht hi v n xs size hown c
 unfold Oper.wp
 simp [execOp, ho, resolve, invoke, builtin, hs, hx, hrun, Result.andThen]
 exact hK _ _ h
theorem U0 {w : World} {b off : Nat} {l : List Nat} (h : ∀ k u : Nat, l[k]? = some u → w.cell? ⟨b, off + k, none⟩ = some (.int .u32 (u : Int))) :
  ∀ (j : Nat) u, (l.map fun u => Value.int .u32 (u : Nat))[j]? = some u → w.cell? ((⟨b, off, none⟩ : Addr).add j) = some u := by
 intro j u hu
 rw [List.getElem?_map] at hu
 cases e : l[j]? with
 | none => rw [e] at hu; cases hu
 | some x =>
  rw [e] at hu
  simp only [Option.map_some, Option.some.injEq] at hu
  subst hu
  have := h j x e
  by_cases hz : j = 0
  ·subst hz; simpa [Addr.add] using this
  ·simpa [Addr.add, hz] using this
theorem Un (l : List Nat) : ∀ u ∈ (l.map fun u => Value.int .u32 (u : Nat)), u.oneCell' = true := by
 intro u hu
 simp only [List.mem_map] at hu
 obtain ⟨x, _, rfl⟩ := hu
 rfl
def OwnPost (l : List Nat) (w : World) (e : Ending) (w' : World) : Prop := ∃ v, e = .returned v ∧ OwnW w.heap.size l v w' ∧ Below w.heap.size w w'
theorem OwnW.of_block {B g : Nat} {l : List Nat} {w : World} (hB : B ≤ g) (hl : l.length ≤ maxLen) (h : w.heap[g]? = some (.cells (l.map fun u => Value.int .u32 (u : Nat)).toArray 129 (0, 0))) :
  OwnW B l (.slice (some ⟨g, 0, none⟩) l.length l.length) w :=
 ⟨by simp, .inr ⟨g, l.length, _, rfl, hB, h, Nat.le_refl _, hl, by simp, by rw [List.toList_toArray]; exact List.take_of_length_le (by simp)⟩⟩
theorem Yi (A : Option Addr) (n c : Nat) (l : List Nat) (w : World) (hn : l.length = n) (hc : n ≤ c) (hm : n ≤ 35184372088832) (h : RW w w.heap.size A l) :
  Cp 220 #[.slice A n c] w (OwnPost (nrm l) w) := by
 have c1 := fun W (h : RW W w.heap.size A l) => As A n c l w.heap.size W hn hc hm h
 obtain ⟨m, hm0⟩ : ∃ m, (nrm l).length = m := ⟨_, rfl⟩
 have hle : m ≤ n := by rw [← hm0, ← hn]; exact Ba l
 rw [hm0] at c1
 have hmk := run_make_row' (P := Tryz.prog) 121 129 (.int .u32 0) 4 Tryz.underlying121 Ef rfl .i64 .i64 m (by omega) (by omega) w
 have hmade := World.rowIs_made w (.int .u32 0) m 129
 have HC := Lh (h.nrm)
 have HM := Lh hm0
 have hm1 : (m : Int) ≤ 35184372088832 := by omega
 have HR := Lh h
 have HX := Lh hmade
 clear h hn hc hm hm0 hle hmade
 go_enter Tryz.func220, Tryz.ntmps220
 go_wp2_with (first | (go_at_call 218; refine (c1 _ HR.out).mono ?_; rintro e w' ⟨rfl, rfl⟩) | (with_reducible refine wpList_copy_splice rfl (.tmp 9) (.tmp 10) 121 121 rfl 129 Tryz.underlying121 (by kernel_rfl) (some ⟨w.heap.size, 0, none⟩) A m m m m ?e1 ?e2 w.heap.size 0 (List.replicate m (.int .u32 0)) 129 ?k1 ((nrm l).map fun u => Value.int .u32 (u : Nat)) ?k2 ?k3 ?k4 ?k5 w.heap.size w ?k6 (Nat.le_refl _) ?_))
 case e1 => rfl
 case e2 => rfl
 case k1 =>
  have e := heap_alloc_new w (.cells (madeCells #[Value.int .u32 0] m) 129)
  rw [show madeCells #[Value.int .u32 0] m = (List.replicate m (Value.int .u32 0)).toArray from Array.toList_inj.1 (by rw [toList_madeCells_one, List.toList_toArray])] at e ⊢
  exact e
 case k2 => rw [List.length_map, HM.out]; exact (Nat.min_self _).symm
 case k3 =>
  intro hp
  have hp' : 0 < (nrm l).length := by simpa using hp
  obtain ⟨b, off, e, hb, hc⟩ := HC.out.2 hp'
  refine ⟨⟨b, off, none⟩, e, fun j u hu => ?_⟩
  rw [World.cell?_alloc_lt]
  ·exact U0 hc j _ (by rw [List.getElem?_map, hu]; rfl)
  ·unfold Addr.add; split <;> exact hb
 case k4 => rw [List.length_map, HM.out, List.length_replicate]; omega
 case k5 => exact Un _
 case k6 => exact (Below.refl _ _).alloc (Nat.le_refl _) _
 intro w2 HG2 hB2
 go_wp2
 go_ret
 refine ⟨_, rfl, ?_⟩
 have hG := HG2.out
 have e : splice (List.replicate m (Value.int .u32 0)) 0 ((nrm l).map fun u => Value.int .u32 (u : Nat)) = (nrm l).map fun u => Value.int .u32 (u : Nat) := by
  unfold splice
  rw [List.take_zero, List.nil_append, List.drop_of_length_le (by rw [List.length_replicate, List.length_map, HM.out]; omega), List.append_nil]
 rw [e] at hG
 have := OwnW.of_block (B := w.heap.size) (Nat.le_refl _) (by rw [HM.out]; unfold maxLen; omega) hG
 rw [HM.out] at this
 exact ⟨this, hB2⟩
theorem Z5 (A : Option Addr) (c : Nat) (w : World) : Cp 192 #[.slice A 0 c] w (OwnPost [] w) := by
 obtain ⟨i0, hi, hz0, hz1, hz2⟩ := info_parts Ef
 rcases A with _ | ad
 ·go_enter Tryz.func192, Tryz.ntmps192
  go_wp2
  go_loop [3] (fun i => i = .int .i64 0) (fun _ => 0)
  case atStart => exact rfl
  case round =>
   obtain rfl := hrel
   go_wp2_with (at_builtin; refine Pg rfl _ _ 121 rfl w.heap.size 129 i0 1 Tryz.underlying121 hi _ 0 [] c rfl (World.ownsRow_nil _ _ _ _) rfl ?_)
   go_ret
   exact ⟨_, rfl, OwnW.nil _ _, Below.refl _ _⟩
 ·go_enter Tryz.func192, Tryz.ntmps192
  go_wp2
  go_loop [3] (fun i => i = .int .i64 0) (fun _ => 0)
  case atStart => exact rfl
  case round =>
   obtain rfl := hrel
   go_wp2_with (at_builtin; refine wpList_append_own _ rfl _ _ 121 rfl w.heap.size 129 i0 (.int .u32 0) 1 4 Tryz.underlying121 hi hz0 hz1 hz2 rfl (by decide) _ 0 [] rfl (World.ownsRow_nil _ _ _ _) ad 0 c [] rfl rfl (fun j u hu => by simp at hu) (fun u hu => by simp at hu) (by unfold maxLen; omega) (by omega) (Nat.le_refl _) ?_)
   intro v' w1 hown hg _
   have HO := Lh hown
   clear hown
   go_wp2
   go_ret
   exact ⟨_, rfl, HO.out, (Below.refl _ _).grown hg (Nat.le_refl _) (fun k hk => by simp [Value.ownBlock] at hk)⟩
theorem Aad (b off n c : Nat) (l : List Nat) (w : World) (hn : l.length = n) (hc : n ≤ c) (hm : n ≤ 35184372088832) (h : ∀ k u : Nat, l[k]? = some u → w.cell? ⟨b, off + k, none⟩ = some (.int .u32 (u : Int))) :
  Cp 192 #[.slice (some ⟨b, off, none⟩) n c] w (OwnPost (nrm l) w) := by
 obtain ⟨i0, hi, hz0, hz1, hz2⟩ := info_parts Ef
 have HN := Lh hn
 have HC := Lh h
 have hm1 : (n : Int) ≤ 35184372088832 := by omega
 have hc1 : (n : Int) ≤ (c : Int) := by omega
 clear hn h
 have last : ∀ k : Nat, k ≤ n → Hid (nrm l = l.take k) → ∀ (v' : Value) (w1 : World), w1.ownsRow w.heap.size 129 1 v' k ((l.take k).map fun u => Value.int .u32 (u : Nat)) → w.grownBy w1 (Value.ownBlock (.slice none 0 0)) → OwnPost (nrm l) w (.returned v') w1 := by
  intro k hk HE v' w1 hown hg
  refine ⟨v', rfl, ?_, (Below.refl _ _).grown hg (Nat.le_refl _) (fun k hk => by simp [Value.ownBlock] at hk)⟩
  rw [HE.out]
  have e : (l.take k).length = k := by rw [List.length_take, HN.out]; omega
  unfold OwnW
  rw [e]
  exact hown
 have hnews : ∀ k : Nat, ∀ (j : Nat) u, ((l.take k).map fun u => Value.int .u32 (u : Nat))[j]? = some u → w.cell? ((⟨b, off, none⟩ : Addr).add j) = some u := by
  intro k
  refine U0 (fun i u hu => HC.out i u ?_)
  rw [List.getElem?_take] at hu
  split at hu
  ·exact hu
  ·cases hu
 have hlen : ∀ k : Nat, k ≤ n → ((l.take k).map fun u => Value.int .u32 (u : Nat)).length = k * 1 := fun k hk => by
  rw [List.length_map, List.length_take, HN.out]; omega
 have LAST := Lh last
 have NEWS := Lh hnews
 have LEN := Lh hlen
 clear last hnews hlen
 go_enter Tryz.func192, Tryz.ntmps192
 go_wp2
 go_loop [3] (fun i => ∃ k : Nat, i = .int .i64 k ∧ k ≤ n ∧ Hid (∀ j, k ≤ j → j < l.length → l.getD j 0 = 0)) (fun i => (intOf i).toNat)
 case atStart => exact ⟨n, rfl, Nat.le_refl _, Lh (fun j h1 h2 => by have := HN.out; omega)⟩
 case round =>
  obtain ⟨k, rfl, hk, HZ⟩ := hrel
  by_cases h0 : k = 0
  ·have HE := Lh (show nrm l = l.take k from Jh l k (by have := HN.out; omega) HZ.out (.inl h0))
   subst h0
   go_wp2_with (at_builtin; refine wpList_append_own _ rfl _ _ 121 rfl w.heap.size 129 i0 (.int .u32 0) 1 4 Tryz.underlying121 hi hz0 hz1 hz2 rfl (by decide) _ 0 [] rfl (World.ownsRow_nil _ _ _ _) ⟨b, off, none⟩ 0 c ((l.take 0).map fun u => Value.int .u32 (u : Nat)) rfl (LEN.out 0 hk) (NEWS.out 0) (Un _) (by unfold maxLen; omega) (by omega) (Nat.le_refl _) ?_)
   intro v' w1 hown hg _
   have HO := Lh (LAST.out 0 hk HE v' w1 (by simpa using hown) hg)
   clear hown
   go_wp2
   go_ret
   exact HO.out
  ·obtain ⟨j, rfl⟩ : ∃ j, k = j + 1 := ⟨k - 1, by omega⟩
   have hj : j < l.length := by have := HN.out; omega
   have hcell := HC.out j _ (getD_some hj)
   have h1 : (j : Int) < (n : Int) := by omega
   by_cases hz : l.getD j 0 = 0
   ·rw [hz] at hcell
    have HZ2 := Lh (show ∀ i, j ≤ i → i < l.length → l.getD i 0 = 0 from fun i h2 h3 => by
     by_cases h4 : i = j
     ·rw [h4]; exact hz
     ·exact HZ.out i (by omega) h3)
    clear hz hj
    go_wp2
    go_round
    case rel => exact ⟨j, by go_num, by omega, HZ2⟩
    case measure => simp [intOf]
   ·have HE := Lh (show nrm l = l.take (j + 1) from Jh l (j + 1) (by omega) HZ.out (.inr (by simpa using hz)))
    obtain ⟨u, hu⟩ : ∃ u, l.getD j 0 = u := ⟨_, rfl⟩
    rw [hu] at hcell hz
    have hz' : ((u : Int) == 0) = false := by simp; omega
    have hjc : (j : Int) + 1 ≤ (c : Int) := by omega
    clear hu hj
    go_wp2_with (at_builtin; refine wpList_append_own _ rfl _ _ 121 rfl w.heap.size 129 i0 (.int .u32 0) 1 4 Tryz.underlying121 hi hz0 hz1 hz2 rfl (by decide) _ 0 [] rfl (World.ownsRow_nil _ _ _ _) ⟨b, off, none⟩ (j + 1) c ((l.take (j + 1)).map fun u => Value.int .u32 (u : Nat)) rfl (LEN.out (j + 1) hk) (NEWS.out (j + 1)) (Un _) (by unfold maxLen; omega) (by omega) (Nat.le_refl _) ?_)
    intro v' w1 hown hg _
    have HO := Lh (LAST.out (j + 1) hk HE v' w1 (by simpa using hown) hg)
    clear hown
    go_wp2
    go_ret
    exact HO.out
theorem Bo (A : Option Addr) (n c : Nat) (l : List Nat) (B : Nat) (w : World) (hn : l.length = n) (hc : n ≤ c) (hm : n ≤ 35184372088832) (h : RW w B A l) :
  Cp 192 #[.slice A n c] w (OwnPost (nrm l) w) := by
 rcases Nat.eq_zero_or_pos n with h0 | h0
 ·subst h0
  obtain rfl : l = [] := List.eq_nil_of_length_eq_zero hn
  exact Z5 A c w
 ·obtain ⟨b, off, rfl, _, hcell⟩ := h.2 (by omega)
  exact Aad b off n c l w hn hc hm hcell
def SlPost (l : List Nat) (w : World) (e : Ending) (w' : World) : Prop := ∃ v, e = .returned v ∧ Sl w' w'.heap.size v l ∧ Below w.heap.size w w'
theorem SlPost.of {l : List Nat} {w : World} {e : Ending} {w' : World} (hw : Ws l) (h : OwnPost l w e w') : SlPost l w e w' := by
 obtain ⟨v, e, ho, hb⟩ := h
 exact ⟨v, e, ho.sl hw, hb⟩
theorem Alc (A : Option Addr) (n c i : Nat) (l : List Nat) (B : Nat) (w : World) (hn : l.length = n) (hm : n ≤ 35184372088832) (h : RW w B A l) (hi : i < n) :
  Cq 191 #[.slice A n c, .int .i64 i] (.int .u64 (l.getD i 0 : Nat)) w := by
 have hx := h.1.getD i
 obtain ⟨b, off, rfl, _, hc⟩ := h.2 (by omega)
 have hcell := hc i _ (getD_some (by omega))
 obtain ⟨u, hu⟩ : ∃ u, l.getD i 0 = u := ⟨_, rfl⟩
 rw [hu] at hcell hx ⊢
 have hx' : (u : Int) < 4294967296 := by omega
 have h1 : (i : Int) < (n : Int) := by omega
 have h2 : (n : Int) ≤ 35184372088832 := by omega
 clear hn hm h hc hu hi hx
 go_enter Tryz.func191, Tryz.ntmps191
 go_wp2
 go_ret
 exact ⟨rfl, rfl⟩
theorem Af0 (A : Option Addr) (n c i : Nat) (l : List Nat) (w : World) (hn : l.length = n) (hi : n ≤ i) :
  Cq 191 #[.slice A n c, .int .i64 i] (.int .u64 (l.getD i 0 : Nat)) w := by
 have e : l.getD i 0 = 0 := F7 (by omega)
 rw [e]
 have h1 : ¬ ((i : Int) < (n : Int)) := by omega
 clear hn hi e
 go_enter Tryz.func191, Tryz.ntmps191
 go_wp2
 go_ret
 exact ⟨rfl, rfl⟩
theorem Ap (A : Option Addr) (n c i : Nat) (l : List Nat) (B : Nat) (w : World) (hn : l.length = n) (hm : n ≤ 35184372088832) (h : RW w B A l) :
  Cq 191 #[.slice A n c, .int .i64 i] (.int .u64 (l.getD i 0 : Nat)) w := by
 by_cases hi : i < n
 ·exact Alc A n c i l B w hn hm h hi
 ·exact Af0 A n c i l w hn (by omega)
def two (n : Nat) : List Nat := [n % 4294967296, n / 4294967296]
theorem Aax (w : World) (x y : Nat) (hx : x < 4294967296) (hy : y < 4294967296) : RW (w.alloc (.cells #[.int .u32 (x : Int), .int .u32 (y : Int)] 129)) (w.heap.size + 1) (some ⟨w.heap.size, 0, none⟩) [x, y] := ⟨Ws.cons hx (Ws.cons hy Ws.nil), fun _ => by
 refine ⟨w.heap.size, 0, rfl, by omega, fun k u hu => ?_⟩
 rw [Nat.zero_add, cell_of_row _ _ _ _ _ _ (heap_alloc_new w (.cells #[.int .u32 (x : Int), .int .u32 (y : Int)] 129))]
 match k, hu with
 | 0, hu => simp at hu; subst hu; rfl
 | 1, hu => simp at hu; subst hu; rfl
 | k + 2, hu => simp at hu⟩
theorem Zp {n : Nat} (hn : n < 18446744073709551616) : Ws (two n) := Ws.cons (by omega) (Ws.cons (by omega) Ws.nil)
theorem Ach (n : Nat) : val (two n) = n := by simp only [two, val]; omega
theorem Oz (n : Nat) (hn : n < 18446744073709551616) (w : World) : Cp 187 #[.int .u64 n] w (SlPost (nrm (two n)) w) := by
 have c1 := As (some ⟨w.heap.size, 0, none⟩) 2 2 (two n) (w.heap.size + 1) _ rfl (Nat.le_refl _) (by omega) (Aax w (n % 4294967296) (n / 4294967296) (by omega) (by omega))
 have h1 : (n : Int) ≤ 18446744073709551615 := by omega
 have H := Aax w (n % 4294967296) (n / 4294967296) (by omega) (by omega)
 rw [show ((n % 4294967296 : Nat) : Int) = (n : Int) % 4294967296 by omega, show ((n / 4294967296 : Nat) : Int) = (n : Int) / 4294967296 by omega] at c1 H
 have HH := Lh H
 clear hn H
 go_enter Tryz.func187, Tryz.ntmps187
 go_wp2_with fail
 refine c1.mono ?_
 rintro e w' ⟨rfl, rfl⟩
 go_wp2
 go_ret
 refine ⟨_, rfl, Sl.mk rfl (Nat.le_refl _) (HH.out.nrm.more (by simp)), (Below.refl _ _).alloc (Nat.le_refl _) _⟩
theorem Adq (n : Nat) (hn : n < 18446744073709551616) (w : World) : Cp 211 #[.int .u64 n] w (SlPost (nrm (two n)) w) := by
 have H := Aax w (n % 4294967296) (n / 4294967296) (by omega) (by omega)
 have c1 := Bo (some ⟨w.heap.size, 0, none⟩) 2 2 (two n) (w.heap.size + 1) _ rfl (Nat.le_refl _) (by omega) H
 have h1 : (n : Int) ≤ 18446744073709551615 := by omega
 rw [show ((n % 4294967296 : Nat) : Int) = (n : Int) % 4294967296 by omega, show ((n / 4294967296 : Nat) : Int) = (n : Int) / 4294967296 by omega] at c1
 have HW := Lh (Zp hn).nrm
 clear hn H
 go_enter Tryz.func211, Tryz.ntmps211
 go_wp2_with fail
 refine c1.mono ?_
 rintro e w' ⟨v, rfl, ho, hb⟩
 go_wp2
 go_ret
 exact ⟨_, rfl, ho.sl HW.out, ((Below.refl _ _).alloc (Nat.le_refl _) _).trans (hb.mono (by simp))⟩
def Row (w : World) (g : Nat) (R : List Nat) : Prop := w.heap[g]? = some (.cells (R.map fun u => Value.int .u32 (u : Nat)).toArray 129 (0, 0))
theorem Row.lt {w : World} {g : Nat} {R : List Nat} (h : Row w g R) : g < w.heap.size := by
 rcases Nat.lt_or_ge g w.heap.size with hlt | hge
 ·exact hlt
 ·unfold Row at h; rw [Array.getElem?_eq_none hge] at h; cases h
theorem Row.cell {w : World} {g : Nat} {R : List Nat} (h : Row w g R) (i : Nat) (hi : i < R.length) : w.cell? ⟨g, i, none⟩ = some (.int .u32 ((R.getD i 0 : Nat) : Int)) := by
 rw [cell_of_row w g i _ _ _ h, List.getElem?_toArray, List.getElem?_map, getD_some hi]; rfl
theorem Row.frozen {w : World} {g : Nat} {R : List Nat} (h : Row w g R) (i : Nat) : w.frozen? ⟨g, i, none⟩ = false := by
 unfold Row at h
 simp [World.frozen?, h]
theorem Row.drewN {w : World} {g : Nat} {R : List Nat} (h : Row w g R) (n : Nat) : Row (w.drewN n) g R := h
theorem Row.below {w w' : World} {g B : Nat} {R : List Nat} (h : Row w g R) (hg : g < B) (hb : Below B w w') : Row w' g R := (hb.block g hg).trans h
theorem Row.set {w : World} {g : Nat} {R : List Nat} (h : Row w g R) (i u : Nat) : Row (w.setCell ⟨g, i, none⟩ (.int .u32 (u : Nat))) g (R.set i u) := by
 unfold Row at h ⊢
 rw [List.map_set]
 simp [World.setCell, Array.getElem?_modify, h]
theorem Row.rw {w : World} {g : Nat} {R : List Nat} (h : Row w g R) (hw : Ws R) (o n : Nat) (ho : o + n ≤ R.length) : RW w (g + 1) (some ⟨g, o, none⟩) ((R.drop o).take n) := ⟨(hw.drop o).take n, fun _ => by
 refine ⟨g, o, rfl, by omega, fun k u hu => ?_⟩
 rw [List.getElem?_take] at hu
 split at hu
 ·next hk =>
  rw [List.getElem?_drop] at hu
  have := h.cell (o + k) (by omega)
  rw [List.getD_eq_getElem?_getD, hu] at this
  exact this
 ·cases hu⟩
theorem Row.rw0 {w : World} {g : Nat} {R : List Nat} (h : Row w g R) (hw : Ws R) : RW w (g + 1) (some ⟨g, 0, none⟩) R := by
 have := h.rw hw 0 R.length (by omega)
 rw [List.drop_zero, List.take_of_length_le (Nat.le_refl _)] at this
 exact this
theorem Row.made (w : World) (n : Nat) : Row (w.alloc (.cells (madeCells #[.int .u32 0] n) 129)) w.heap.size (List.replicate n 0) := by
 have e := heap_alloc_new w (.cells (madeCells #[Value.int .u32 0] n) 129)
 unfold Row
 rw [show madeCells #[Value.int .u32 0] n = (List.replicate n (Value.int .u32 0)).toArray from Array.toList_inj.1 (by rw [toList_madeCells_one, List.toList_toArray])] at e ⊢
 rw [List.map_replicate]
 exact e
theorem Row.own {w : World} {g : Nat} {R : List Nat} (h : Row w g R) {B : Nat} (hB : B ≤ g) (hl : R.length ≤ maxLen) : OwnW B R (.slice (some ⟨g, 0, none⟩) R.length R.length) w := OwnW.of_block hB hl h
theorem Ws.zeros (n : Nat) : Ws (List.replicate n 0) := fun u hu => by rw [List.eq_of_mem_replicate hu]; omega
theorem Pp (n j : Nat) : (List.replicate n 0).getD j 0 = 0 := by
 rw [List.getD_eq_getElem?_getD, List.getElem?_replicate]
 split <;> rfl
def btl (l : List Nat) : Nat := if nrm l = [] then 0 else 32 * ((nrm l).length - 1) + Lib.bitLen (l.getD ((nrm l).length - 1) 0)
theorem Vt : Lib.bitLen 0 = 0 := by decide
theorem Gs (x : Nat) (h : x < 4294967296) : Lib.bitLen x ≤ 32 := Lib.bitLen_le x 32 (by omega) h
theorem Gf (A : Option Addr) (n c : Nat) (l : List Nat) (B : Nat) (w : World) (hn : l.length = n) (hc : n ≤ c) (hm : n ≤ 35184372088832) (h : RW w B A l) :
  Cq 176 #[.slice A n c] (.int .i64 (btl l : Nat)) w := by
 have c1 := As A n c l B w hn hc hm h
 by_cases h0 : nrm l = []
 ·rw [h0] at c1
  have e : btl l = 0 := by unfold btl; rw [if_pos h0]
  rw [e]
  clear hn hc hm h h0 e
  go_enter Tryz.func176, Tryz.ntmps176
  go_wp2_with (go_at_call 218; refine c1.mono ?_; rintro e w' ⟨rfl, rfl⟩)
  go_ret
  exact ⟨rfl, rfl⟩
 ·have hle := Ba l
  have hp : 0 < (nrm l).length := List.length_pos_iff.2 h0
  have hx := h.1.getD ((nrm l).length - 1)
  have e : btl l = 32 * ((nrm l).length - 1) + Lib.bitLen (l.getD ((nrm l).length - 1) 0) := by unfold btl; rw [if_neg h0]
  obtain ⟨b, off, rfl, _, hcell⟩ := h.2 (by omega)
  obtain ⟨m, hm0⟩ : ∃ m, (nrm l).length = m + 1 := ⟨(nrm l).length - 1, by omega⟩
  have hcl := hcell m _ (getD_some (by omega))
  rw [hm0, Nat.add_sub_cancel] at e hx
  rw [hm0] at c1
  obtain ⟨u, hu⟩ : ∃ u, l.getD m 0 = u := ⟨_, rfl⟩
  rw [hu] at hcl hx e
  have hb := Gs u hx
  have h1 : (m : Int) ≤ 35184372088832 := by omega
  have c2 := fun W => Tryz.bits_Len32 (u : Int) W (by omega) (by omega)
  rw [Int.toNat_natCast] at c2
  have HE := Lh e
  have hb1 : ((Lib.bitLen u : Nat) : Int) ≤ 32 := by omega
  clear hn hc hm h h0 e hle hp hx hcell hu hm0 hb
  go_enter Tryz.func176, Tryz.ntmps176
  go_wp2_with (first | (go_at_call 218; refine c1.mono ?_; rintro e w' ⟨rfl, rfl⟩) | (go_at_call 219; refine (c2 _).mono ?_; rintro e w' ⟨rfl, rfl⟩))
  go_ret
  exact ⟨Fh (by rw [HE.out]; omega), rfl⟩
theorem Dd (A : Option Addr) (n c : Nat) (l : List Nat) (B : Nat) (w : World) (hn : l.length = n) (hc : n ≤ c) (hm : n ≤ 35184372088832) (h : RW w B A l) :
  Ct 193 #[.slice A n c] (.int .i64 (btl l : Nat)) w := by
 have c1 := (Bo A n c l B w hn hc hm h).mono (fun e w' x => SlPost.of h.1.nrm x)
 by_cases h0 : nrm l = []
 ·rw [h0] at c1
  have e : btl l = 0 := by unfold btl; rw [if_pos h0]
  rw [e]
  clear hn hc hm h h0 e
  go_enter Tryz.func193, Tryz.ntmps193
  go_wp2_with fail
  refine c1.mono ?_
  rintro e w' ⟨v, rfl, ⟨A2, c2, rfl, _, _⟩, hb⟩
  go_wp2
  go_ret
  exact ⟨rfl, hb⟩
 ·have hle := Ba l
  have hp : 0 < (nrm l).length := List.length_pos_iff.2 h0
  have hx := h.1.getD ((nrm l).length - 1)
  have e : btl l = 32 * ((nrm l).length - 1) + Lib.bitLen (l.getD ((nrm l).length - 1) 0) := by unfold btl; rw [if_neg h0]
  obtain ⟨m, hm0⟩ : ∃ m, (nrm l).length = m + 1 := ⟨(nrm l).length - 1, by omega⟩
  have hg : (nrm l).getD m 0 = l.getD m 0 := by
   rw [Ij l, List.getD_eq_getElem?_getD, List.getD_eq_getElem?_getD, List.getElem?_take, if_pos (by omega)]
  rw [hm0, Nat.add_sub_cancel] at e hx
  have h1 : (m : Int) ≤ 35184372088832 := by omega
  have HM := Lh hm0
  have HG := Lh hg
  have HE := Lh e
  obtain ⟨u, hu⟩ : ∃ u, l.getD m 0 = u := ⟨_, rfl⟩
  have HU := Lh hu
  rw [hu] at hx
  have HX := Lh hx
  clear hn hc hm h h0 e hle hp hm0 hg hu hx
  go_enter Tryz.func193, Tryz.ntmps193
  go_wp2_with fail
  refine c1.mono ?_
  rintro e w' ⟨v, rfl, ⟨A2, c2, rfl, _, hr⟩, hb⟩
  obtain ⟨b, off, rfl, _, hcell⟩ := hr.2 (by rw [HM.out]; omega)
  have hcl := hcell m _ (getD_some (by rw [HM.out]; omega))
  rw [HG.out, HU.out] at hcl
  rw [HM.out]
  clear hcell hr c1
  go_wp2
  go_loop [4, 5] (fun i t => ∃ k x : Nat, i = .int .i64 ((k : Nat) : Int) ∧ t = .int .u32 (x : Nat) ∧ Hid (x < 4294967296) ∧ k ≤ 32 * m + 32 ∧ Hid (k + Lib.bitLen x = 32 * m + Lib.bitLen u)) (fun _ t => (intOf t).toNat)
  case atStart => exact ⟨32 * m, u, by go_num, rfl, HX, by omega, Lh rfl⟩
  case round =>
   obtain ⟨k, x, rfl, rfl, hx32, hk, HK⟩ := hrel
   by_cases h0 : x = 0
   ·have HZ := Lh (show k = btl l by have := HK.out; rw [h0, Vt] at this; rw [HE.out, HU.out]; omega)
    subst h0
    go_wp2
    go_ret
    exact ⟨Fh (by rw [HZ.out]), hb⟩
   ·have h2 : (0 : Int) < (x : Int) := by omega
    have HK2 := Lh (show k + 1 + Lib.bitLen (x / 2) = 32 * m + Lib.bitLen u by
     have := HK.out
     rw [Lib.bitLen_half x h0 (by have := hx32.out; omega)] at this
     omega)
    have hk1 : k + 1 ≤ 32 * m + 32 := by have := HK2.out; have := Gs u HX.out; omega
    have HX2 := Lh (show x / 2 < 4294967296 by have := hx32.out; omega)
    have hk2 : (k : Int) ≤ 1125899906842656 := by omega
    clear h0
    go_wp2
    go_round
    case rel => exact ⟨k + 1, x / 2, by go_num, by go_num, HX2, hk1, HK2⟩
    case measure => simp [intOf]; omega
def dv (r : Nat) : List Nat → Nat
 | [] => 0
 | x :: l => x + r * dv r l
def Ds (r : Nat) (l : List Nat) : Prop := ∀ u ∈ l, u < r
def Fv : List Nat → List Nat
 | [] => []
 | x :: l => if x = 0 ∧ Fv l = [] then [] else x :: Fv l
theorem Ds.nil (r : Nat) : Ds r [] := fun u h => by simp at h
theorem Ds.head {r x : Nat} {l : List Nat} (h : Ds r (x :: l)) : x < r := h x (by simp)
theorem Ds.tail {r x : Nat} {l : List Nat} (h : Ds r (x :: l)) : Ds r l := fun u hu => h u (by simp [hu])
theorem Ds.snoc {r x : Nat} {l : List Nat} (h : Ds r l) (hx : x < r) : Ds r (l ++ [x]) := fun u hu => by
 rcases List.mem_append.1 hu with h1 | h1
 ·exact h u h1
 ·simp at h1; rw [h1]; exact hx
theorem Aci (r : Nat) : ∀ (l : List Nat) (x : Nat), dv r (l ++ [x]) = dv r l + r ^ l.length * x
 | [], x => by simp [dv]
 | y :: l, x => by
  rw [List.cons_append, dv, Aci r l x, dv, List.length_cons, Nat.pow_succ]
  grind
theorem Mb {r : Nat} (hr : 0 < r) : ∀ {l : List Nat}, dv r l = 0 → Fv l = []
 | [], _ => rfl
 | x :: l, h => by
  rw [dv] at h
  have h1 : x = 0 := by omega
  have h2 : r * dv r l = 0 := by omega
  have h3 : dv r l = 0 := by
   rcases Nat.mul_eq_zero.1 h2 with h4 | h4
   ·omega
   ·exact h4
  rw [Fv, Mb hr h3, if_pos ⟨h1, rfl⟩]
theorem Ow : ∀ {l : List Nat}, (l = [] ∨ l.getLast? ≠ some 0) → Fv l = l
 | [], _ => rfl
 | x :: l, h => by
  have h1 : (x :: l).getLast? ≠ some 0 := by
   rcases h with h | h
   ·cases h
   ·exact h
  rw [Fv]
  cases l with
  | nil =>
   have : x ≠ 0 := fun e => h1 (by rw [e]; rfl)
   rw [if_neg (fun h => this h.1)]; rfl
  | cons y l =>
   have h2 := Ow (l := y :: l) (.inr (by rw [List.getLast?_cons_cons] at h1; exact h1))
   rw [h2, if_neg (fun h => by cases h.2)]
def dch (d : Nat) : Nat := if d < 10 then 48 + d else 87 + d
theorem Ao8 {d : Nat} (h : d < 36) : dch d < 128 := by unfold dch; split <;> omega
/-! ### read -/
def pv (r : Nat) (g : Nat → Nat) : Nat → Nat
 | 0 => 0
 | k + 1 => pv r g k * r + g k
theorem Abi (r : Nat) (g : Nat → Nat) (o : Nat) : ∀ n, pv r g (o + n) = pv r g o * r ^ n + pv r (fun i => g (o + i)) n
 | 0 => by simp [pv]
 | n + 1 => by
  rw [← Nat.add_assoc, pv, Abi r g o n, pv, Nat.pow_succ]
  grind
theorem Adv {r : Nat} {g : Nat → Nat} : ∀ {n : Nat}, (∀ i, i < n → g i < r) → pv r g n < r ^ n
 | 0, _ => by simp [pv]
 | n + 1, h => by
  have h1 := Adv (fun i hi => h i (by omega)) (r := r) (g := g) (n := n)
  have h2 := h n (by omega)
  rw [pv, Nat.pow_succ]
  have : (pv r g n + 1) * r ≤ r ^ n * r := Nat.mul_le_mul_right _ h1
  rw [Nat.add_mul] at this
  omega
theorem Hx {r : Nat} {g f : Nat → Nat} : ∀ {n : Nat}, (∀ i, i < n → g i = f i) → pv r g n = pv r f n
 | 0, _ => rfl
 | n + 1, h => by rw [pv, pv, Hx (fun i hi => h i (by omega)), h n (by omega)]
theorem Ne {r : Nat} {g : Nat → Nat} (hr : 0 < r) {k : Nat} : ∀ {n : Nat}, k ≤ n → pv r g k ≤ pv r g n
 | 0, h => by rw [show k = 0 by omega]; exact Nat.le_refl _
 | n + 1, h => by
  rcases Nat.eq_or_lt_of_le h with h1 | h1
  ·rw [h1]; exact Nat.le_refl _
  ·have h2 := Ne (r := r) (g := g) hr (k := k) (n := n) (by omega)
   rw [pv]
   have : pv r g n * 1 ≤ pv r g n * r := Nat.mul_le_mul_left _ hr
   omega
def dgt (c : Nat) : Nat := if 48 ≤ c ∧ c ≤ 57 then c - 48 else if 97 ≤ c ∧ c ≤ 122 then c - 97 + 10 else if 65 ≤ c ∧ c ≤ 90 then c - 65 + 10 else 36
theorem Nz (c : Nat) : dgt c ≤ 36 := by unfold dgt; split <;> (try split) <;> (try split) <;> omega
def btn (s : ByteArray) (k : Nat) : Nat := (s.data[k]?.getD 0).toNat
theorem D9 (s : ByteArray) (k : Nat) (h : k < s.size) : ((s[k]'h).toNat : Nat) = btn s k := by
 unfold btn
 rw [Array.getElem?_eq_getElem (by exact h)]; rfl
theorem Fw (s : ByteArray) (k : Nat) : btn s k < 256 := (s.data[k]?.getD 0).toNat_lt
def Jq (l : List Nat) (n : Nat) (w : World) (e : Ending) (w' : World) : Prop := ∃ A c, e = .returned (.slice A n c) ∧ (n ≤ c ∧ RW w' w'.heap.size A l) ∧ Below w.heap.size w w'
theorem SlPost.told {l : List Nat} {n : Nat} {w : World} {e : Ending} {w' : World} (h : SlPost l w e w') (hn : l.length = n) : Jq l n w e w' := by
 obtain ⟨v, rfl, ⟨A, c, rfl, hc, hr⟩, hb⟩ := h
 rw [hn] at hc ⊢
 exact ⟨A, c, rfl, ⟨hc, hr⟩, hb⟩
theorem Ap6 (A : Option Addr) (n c : Nat) (l : List Nat) (m : Nat) (w : World) (hn : l.length = n) (hc : n ≤ c) (hm : n ≤ 35184372088832) (h : RW w w.heap.size A l) (hm2 : (nrm l).length = m) :
  Cp 220 #[.slice A n c] w (Jq (nrm l) m w) := (Yi A n c l w hn hc hm h).mono fun _ _ x => (SlPost.of h.1.nrm x).told hm2
theorem Aoy (A : Option Addr) (n c : Nat) (l : List Nat) (m : Nat) (w : World) (hn : l.length = n) (hc : n ≤ c) (hm : n ≤ 35184372088832) (h : RW w w.heap.size A l) (hm2 : (nrm l).length = m) :
  Cp 192 #[.slice A n c] w (Jq (nrm l) m w) := (Bo A n c l w.heap.size w hn hc hm h).mono fun _ _ x => (SlPost.of h.1.nrm x).told hm2
theorem Ss (p q : Nat) (hp : p < 4294967296) (hq : q < 4294967296) : bits BinOp.or IntKind.u32 (p : Int) (q : Int) = ((p ||| q : Nat) : Int) := by
 show IntKind.u32.wrap ((BitVec.ofInt 32 (p : Int) ||| BitVec.ofInt 32 (q : Int)).toNat : Int) = _
 have e1 : (BitVec.ofInt 32 (p : Int)).toNat = p := by rw [BitVec.ofInt_natCast, BitVec.toNat_ofNat]; exact Nat.mod_eq_of_lt (by omega)
 have e2 : (BitVec.ofInt 32 (q : Int)).toNat = q := by rw [BitVec.ofInt_natCast, BitVec.toNat_ofNat]; exact Nat.mod_eq_of_lt (by omega)
 have h : p ||| q < 4294967296 := Nat.or_lt_two_pow (n := 32) hp hq
 rw [BitVec.toNat_or, e1, e2, IntKind.wrap_u32]
 omega
theorem E3 (p q : Nat) (hp : p < 18446744073709551616) (hq : q < 18446744073709551616) : bits BinOp.or IntKind.u64 (p : Int) (q : Int) = ((p ||| q : Nat) : Int) := by
 show IntKind.u64.wrap ((BitVec.ofInt 64 (p : Int) ||| BitVec.ofInt 64 (q : Int)).toNat : Int) = _
 have e1 : (BitVec.ofInt 64 (p : Int)).toNat = p := by rw [BitVec.ofInt_natCast, BitVec.toNat_ofNat]; exact Nat.mod_eq_of_lt (by omega)
 have e2 : (BitVec.ofInt 64 (q : Int)).toNat = q := by rw [BitVec.ofInt_natCast, BitVec.toNat_ofNat]; exact Nat.mod_eq_of_lt (by omega)
 have h : p ||| q < 18446744073709551616 := Nat.or_lt_two_pow (n := 64) hp hq
 rw [BitVec.toNat_or, e1, e2, IntKind.wrap_u64]
 omega
theorem Pz (hi lo : Nat) (hl : lo < 4294967296) : (hi * 4294967296 ||| lo) = hi * 4294967296 + lo := by
 rw [Nat.mul_comm, show 4294967296 = 2 ^ 32 from rfl, ← Nat.two_pow_add_eq_or_of_lt hl]
theorem Eq (l : List Nat) (k : Nat) (h : k ≤ l.length) : val l = val (l.take k) + 4294967296 ^ k * val (l.drop k) := by
 have hk : (l.take k).length = k := by rw [List.length_take]; omega
 have := Hr (l.take k) (l.drop k)
 rw [List.take_append_drop, hk] at this
 exact this
theorem N8 {l : List Nat} {k : Nat} (h : val l < 4294967296 ^ k) : val (l.take k) = val l := by
 rcases Nat.lt_or_ge l.length k with h1 | h1
 ·rw [List.take_of_length_le (by omega)]
 ·have e := Eq l k h1
  rcases Nat.eq_zero_or_pos (val (l.drop k)) with h2 | h2
  ·rw [h2] at e; omega
  ·have : 4294967296 ^ k * 1 ≤ 4294967296 ^ k * val (l.drop k) := Nat.mul_le_mul_left _ h2
   omega
theorem Ck (l : List Nat) (i : Nat) (h : i < l.length) : val (l.drop i) = l.getD i 0 + 4294967296 * val (l.drop (i + 1)) := by
 rw [List.drop_eq_getElem_cons h, val]
 congr 1
 rw [List.getD_eq_getElem?_getD, List.getElem?_eq_getElem h]; rfl
/-! ### by a word -/
structure WordT (a : List Nat) (d i : Nat) (S : List Nat) (r : Nat) : Prop where
 len : S.length = a.length
 ws : Ws S
 far : ∀ j, j < i → S.getD j 0 = a.getD j 0
 sum : val (S.drop i) * d + r = val (a.drop i)
 low : r < d
theorem WordT.start {a : List Nat} {d : Nat} (h : Ws a) (hd : 0 < d) : WordT a d a.length a 0 :=
 ⟨rfl, h, fun _ _ => rfl, by rw [List.drop_of_length_le (Nat.le_refl _)]; simp [val], hd⟩
theorem WordT.next {a : List Nat} {d i : Nat} {S : List Nat} {r : Nat} (h : WordT a d (i + 1) S r) (ha : Ws a) (hi : i < a.length) (hd : d < 4294967296) :
  S.getD i 0 = a.getD i 0 ∧ (r * 4294967296 + a.getD i 0) / d < 4294967296 ∧ WordT a d i (S.set i ((r * 4294967296 + a.getD i 0) / d)) ((r * 4294967296 + a.getD i 0) % d) := by
 obtain ⟨h1, h2, h3, h4, h5⟩ := h
 have hx := ha.getD i
 have hd0 : 0 < d := by omega
 have hq : (r * 4294967296 + a.getD i 0) / d < 4294967296 := by
  rw [Nat.div_lt_iff_lt_mul hd0]
  have : (r + 1) * 4294967296 ≤ d * 4294967296 := Nat.mul_le_mul_right _ h5
  omega
 refine ⟨h3 i (by omega), hq, by rw [List.length_set]; exact h1, h2.set hq, fun j hj => by rw [Ao (by omega)]; exact h3 j (by omega), ?_, Nat.mod_lt _ hd0⟩
 rw [Ck _ i (by rw [List.length_set]; omega), Bb (by omega), Ck a i hi, List.drop_set, if_pos (by omega)]
 have e := Nat.mod_add_div (r * 4294967296 + a.getD i 0) d
 generalize (r * 4294967296 + a.getD i 0) / d = q at *
 generalize (r * 4294967296 + a.getD i 0) % d = z at *
 generalize val (S.drop (i + 1)) = V at *
 rw [← h4]
 grind
theorem WordT.fin {a : List Nat} {d : Nat} {S : List Nat} {r : Nat} (h : WordT a d 0 S r) : val S = val a / d ∧ r = val a % d := by
 obtain ⟨h1, h2, h3, h4, h5⟩ := h
 rw [List.drop_zero, List.drop_zero] at h4
 have e1 : val a / d = val S := by
  rw [← h4, Nat.add_comm, Nat.add_mul_div_right _ _ (by omega), Nat.div_eq_of_lt h5, Nat.zero_add]
 have e2 := Nat.mod_add_div (val a) d
 rw [e1, Nat.mul_comm] at e2
 exact ⟨e1.symm, by omega⟩
theorem Uq {x k m : Nat} (hx : x = 2 ^ (k + 1) * m + 2 ^ k) (hl : x < 2 ^ 64) : x &&& (2 ^ 64 - x) = 2 ^ k := by
 have hp : 0 < 2 ^ k := Nat.two_pow_pos k
 have hk : 2 ^ k < 2 ^ (k + 1) := Nat.pow_lt_pow_right (by omega) (by omega)
 have hx0 : 0 < x := by omega
 apply Nat.eq_of_testBit_eq
 intro i
 have e1 : 2 ^ 64 - x = 2 ^ 64 - ((x - 1) + 1) := by omega
 rw [Nat.testBit_and, e1, Nat.testBit_two_pow_sub_succ (by omega), Nat.testBit_two_pow]
 have e2 : x - 1 = 2 ^ (k + 1) * m + (2 ^ k - 1) := by omega
 rw [e2, Nat.testBit_two_pow_mul_add m (by omega), hx, Nat.testBit_two_pow_mul_add m hk, Nat.testBit_two_pow, Nat.testBit_two_pow_sub_one]
 have hk64 : k < 64 := by
  have : 2 ^ k < 2 ^ 64 := by omega
  exact (Nat.pow_lt_pow_iff_right (a := 2) (by omega)).1 this
 by_cases h1 : i < k + 1
 ·rw [if_pos h1, if_pos h1]
  by_cases h2 : k = i
  ·subst h2; simp [hk64]
  ·have h3 : i < k := by omega
   simp [h2, h3]
 ·rw [if_neg h1, if_neg h1]
  have h2 : ¬ k = i := by omega
  simp [h2]
  intro h _
  exact h
def tzTab : List Int := [0, 1, 56, 2, 57, 49, 28, 3, 61, 58, 42, 50, 38, 29, 17, 4, 62, 47, 59, 36, 45, 43, 51, 22, 53, 39, 33, 30, 24, 18, 12, 5, 63, 55, 48, 27, 60, 41, 37, 16, 46, 35, 44, 21, 52, 32, 23, 11, 54, 26, 40, 15, 34, 20, 31, 10, 25, 14, 19, 9, 13, 8, 7, 6]
theorem Alg : ∀ k : Fin 64, 2 ^ k.val * 285870213051353865 % 18446744073709551616 / 288230376151711744 < 64 ∧ tzTab.getD (2 ^ k.val * 285870213051353865 % 18446744073709551616 / 288230376151711744) 0 = (k.val : Int) := by decide +kernel
theorem Alz {x k m : Nat} (hx : x = 2 ^ (k + 1) * m + 2 ^ k) (hl : x < 18446744073709551616) : bits BinOp.and IntKind.u64 (x : Int) (IntKind.u64.wrap (-(x : Int))) = ((2 ^ k : Nat) : Int) := by
 have hx0 : 0 < x := by have := Nat.two_pow_pos k; omega
 have e : IntKind.u64.wrap (-(x : Int)) = ((18446744073709551616 - x : Nat) : Int) := by rw [IntKind.wrap_u64]; omega
 rw [e]
 have h := Uq hx hl
 rw [show (2 : Nat) ^ 64 = 18446744073709551616 from rfl] at h
 rw [← h]
 generalize hy : 18446744073709551616 - x = y
 show IntKind.u64.wrap ((BitVec.ofInt 64 (x : Int) &&& BitVec.ofInt 64 (y : Int)).toNat : Int) = _
 have e1 : (BitVec.ofInt 64 (x : Int)).toNat = x := by rw [BitVec.ofInt_natCast, BitVec.toNat_ofNat]; exact Nat.mod_eq_of_lt (by omega)
 have e2 : (BitVec.ofInt 64 (y : Int)).toNat = y := by rw [BitVec.ofInt_natCast, BitVec.toNat_ofNat]; exact Nat.mod_eq_of_lt (by omega)
 have h2 : x &&& y ≤ x := Nat.and_le_left
 rw [BitVec.toNat_and, e1, e2, IntKind.wrap_u64]
 omega
def Ea (W : World) : Prop := ∀ i, i < 64 → W.cell? ⟨3, i, none⟩ = some (.int .u8 (tzTab.getD i 0))
theorem Apf (x k m : Nat) (w : World) (hx : x = 2 ^ (k + 1) * m + 2 ^ k) (hl : x < 18446744073709551616) (ht : Ea w) :
  Cq 199 #[.int .u64 x] (.int .i64 (k : Nat)) w := by
 have hk64 : k < 64 := by
  have : 2 ^ k < 2 ^ 64 := by omega
  exact (Nat.pow_lt_pow_iff_right (a := 2) (by omega)).1 this
 have hx0 : 0 < x := by have := Nat.two_pow_pos k; omega
 have k1 := Alz hx hl
 obtain ⟨t1, t2⟩ := Alg ⟨k, hk64⟩
 have hcell := ht _ t1
 rw [t2] at hcell
 simp only at t1 hcell
 have b0 : ((x : Int) == 0) = false := by rw [beq_eq_false_iff_ne]; omega
 obtain ⟨P, hP⟩ : ∃ P, 2 ^ k = P := ⟨_, rfl⟩
 rw [hP] at k1 t1 hcell
 obtain ⟨Q, hQ⟩ : ∃ Q, P * 285870213051353865 % 18446744073709551616 = Q := ⟨_, rfl⟩
 have k2 : IntKind.u64.wrap ((P : Int) * 285870213051353865) = (Q : Int) := by rw [IntKind.wrap_u64]; omega
 rw [hQ] at t1 hcell
 obtain ⟨i, hi⟩ : ∃ i, Q / 288230376151711744 = i := ⟨_, rfl⟩
 have k3 : (Q : Int) / 288230376151711744 = (i : Int) := by omega
 rw [hi] at t1 hcell
 have i1 : (i : Int) < 64 := by omega
 have i0 : (0 : Int) ≤ (i : Int) := by omega
 have hk1 : (k : Int) < 64 := by omega
 clear hx hl ht hx0 t2 hP hQ hi hk64
 go_enter Tryz.func199, Tryz.ntmps199
 go_wp2
 go_ret
 exact ⟨rfl, rfl⟩
end
section
structure AddT (R : List Nat) (o : Nat) (b : List Nat) (x : Nat) (k : Nat) (S : List Nat) (q : Nat) : Prop where
 len : S.length = R.length
 ws : Ws S
 far : ∀ j, j < o ∨ o + k ≤ j → S.getD j 0 = R.getD j 0
 sum : val ((S.drop o).take k) + 4294967296 ^ k * q = val ((R.drop o).take k) + x * val (b.take k)
 low : q < 4294967296
theorem AddT.start {R : List Nat} (o : Nat) (b : List Nat) (x : Nat) (hR : Ws R) : AddT R o b x 0 R 0 := ⟨rfl, hR, fun _ _ => rfl, by simp [val], by omega⟩
def Jm (R : List Nat) (o : Nat) (b : List Nat) (x k q : Nat) : Nat := q + (b.getD k 0 * x + R.getD (o + k) 0)
theorem Nh {R : List Nat} {o : Nat} {b : List Nat} {x k q : Nat} (hR : Ws R) (hb : Ws b) (hx : x < 4294967296) (hq : q < 4294967296) :
  b.getD k 0 * x ≤ 18446744065119617025 ∧ b.getD k 0 * x + R.getD (o + k) 0 < 18446744073709551616 ∧ Jm R o b x k q < 18446744073709551616 := by
 have h1 := hb.getD k
 have h2 := hR.getD (o + k)
 have h3 : b.getD k 0 * x ≤ 4294967295 * 4294967295 := Nat.mul_le_mul (by omega) (by omega)
 unfold Jm
 omega
theorem AddT.next {R : List Nat} {o : Nat} {b : List Nat} {x k : Nat} {S : List Nat} {q : Nat} (h : AddT R o b x k S q) (hR : Ws R) (hb : Ws b) (hx : x < 4294967296) (hk : k < b.length) (ho : o + k < R.length) :
  S.getD (o + k) 0 = R.getD (o + k) 0 ∧ AddT R o b x (k + 1) (S.set (o + k) (Jm R o b x k q % 4294967296)) (Jm R o b x k q / 4294967296) := by
 obtain ⟨h1, h2, h3, h4, h5⟩ := h
 have hlt := (Nh (o := o) (k := k) hR hb hx h5).2.2
 obtain ⟨t, ht⟩ : ∃ t, Jm R o b x k q = t := ⟨_, rfl⟩
 rw [ht] at hlt ⊢
 refine ⟨h3 _ (.inr (Nat.le_refl _)), by rw [List.length_set]; exact h1, h2.set (by omega), fun j hj => ?_, ?_, by omega⟩
 ·rw [Ao (by omega), h3 j (by omega)]
 ·rw [Bd _ o k (by rw [List.length_set]; omega), Bd R o k ho, Br b k hk, Bb (by omega)]
  rw [E8 (l := S.set (o + k) (t % 4294967296)) (m := S) o k (by rw [List.length_set]; omega) (by omega) (fun j _ hj => Ao (by omega))]
  have e := Gc (4294967296 ^ k) t (val ((S.drop o).take k)) (val ((R.drop o).take k) + 4294967296 ^ k * R.getD (o + k) 0 + x * (val (b.take k) + 4294967296 ^ k * b.getD k 0)) (by
   rw [← ht]
   unfold Jm
   grind)
  rw [Nat.pow_succ]
  exact e
def Ann (g : Nat) (R : List Nat) (o : Nat) (b : List Nat) (x : Nat) (w : World) (e : Ending) (w' : World) : Prop :=
 ∃ S q, e = .returned (.int .u32 (q : Nat)) ∧ Row w' g S ∧ AddT R o b x b.length S q ∧ Below g w w'
theorem Uz (g o n c : Nat) (R : List Nat) (A : Option Addr) (m d : Nat) (b : List Nat) (x B : Nat) (w : World) (hR : Row w g R) (hRw : Ws R) (ho : o + n ≤ R.length) (hmn : m ≤ n) (hbl : b.length = m)
  (hB : RW w B A b) (hgB : B ≤ g) (hx : x < 4294967296) (hm : R.length ≤ 35184372088832) :
  Cp 245 #[.slice (some ⟨g, o, none⟩) n c, .slice A m d, .int .u32 x] w (Ann g R o b x w) := by
 rcases Nat.eq_zero_or_pos m with h0 | h0
 ·subst h0
  obtain rfl : b = [] := List.eq_nil_of_length_eq_zero hbl
  have HR := Lh hR
  have HW := Lh hRw
  clear hR hRw ho hmn hbl hB hgB hx hm
  go_enter Tryz.func245, Tryz.ntmps245
  go_wp2
  go_loop [12, 7] (fun i v => i = .int .i64 0 ∧ v = .int .u64 0) (fun _ _ => 0)
  case atStart => exact ⟨rfl, rfl⟩
  case round =>
   obtain ⟨rfl, rfl⟩ := hrel
   go_wp2
   go_ret
   exact ⟨R, 0, rfl, HR.out, AddT.start o [] x HW.out, Below.refl _ _⟩
 ·obtain ⟨a, p, rfl, hab, hc⟩ := hB.2 (by omega)
  have HBW := Lh hB.1
  have HRW := Lh hRw
  have HBL := Lh hbl
  have HC := Lh hc
  have HX := Lh hx
  have HR := Lh hR
  have hm1 : (m : Int) ≤ (n : Int) := by omega
  have hn1 : (n : Int) ≤ 35184372088832 := by omega
  have HO := Lh ho
  have hag : a < g := by omega
  have h0' : (0 : Int) ≤ (x : Int) := by omega
  clear hR hRw ho hmn hbl hB hx hm hc h0
  go_enter Tryz.func245, Tryz.ntmps245
  go_wp2
  go_loopw [12, 7] (fun i v wr => ∃ (k : Nat) (S : List Nat) (q : Nat), i = .int .i64 k ∧ v = .int .u64 (q : Nat) ∧ k ≤ m ∧ Hid (Row wr g S) ∧ Hid (AddT R o b x k S q) ∧ Below g w wr) (fun i _ _ => m - (intOf i).toNat)
  case atStart => exact ⟨0, R, 0, rfl, rfl, Nat.zero_le _, HR, Lh (AddT.start o b x HRW.out), Below.refl _ _⟩
  case round =>
   obtain ⟨k, S, q, rfl, rfl, hk, HS, HT, hbw⟩ := hrel
   by_cases hlt : k < m
   ·have hkb : k < b.length := by rw [HBL.out]; exact hlt
    have hok : o + k < R.length := by have := HO.out; omega
    obtain ⟨e1, hnext⟩ := HT.out.next HRW.out HBW.out HX.out hkb hok
    have hS := HS.out.cell (o + k) (by rw [HT.out.len]; exact hok)
    have hfz := HS.out.frozen (o + k)
    have hcl := HC.out k _ (getD_some hkb)
    rw [← hbw.cell (p := ⟨a, p + k, none⟩) hag] at hcl
    obtain ⟨l1, l2, l3⟩ := Nh (o := o) (k := k) (q := q) HRW.out HBW.out HX.out HT.out.low
    have hset := HS.out.set (o + k) (Jm R o b x k q % 4294967296)
    have HE := Lh (show Jm R o b x k q = q + (b.getD k 0 * x + R.getD (o + k) 0) from rfl)
    have u1 := HBW.out.getD k
    have r1 := HRW.out.getD (o + k)
    have q1 := HT.out.low
    rw [e1] at hS
    obtain ⟨t, ht⟩ : ∃ t, Jm R o b x k q = t := ⟨_, rfl⟩
    obtain ⟨u, hu⟩ : ∃ u, b.getD k 0 = u := ⟨_, rfl⟩
    obtain ⟨r, hr⟩ : ∃ r, R.getD (o + k) 0 = r := ⟨_, rfl⟩
    rw [ht, hu, hr] at HE
    rw [ht] at hnext hset l3
    rw [hu] at hcl l1 l2 u1
    rw [hr] at hS l2 r1
    have HNX := Lh hnext
    have k1 : IntKind.u64.wrap (u : Int) = (u : Int) := IntWalk.u64_in _ (by omega)
    have k2 : IntKind.u64.wrap (x : Int) = (x : Int) := IntWalk.u64_in _ (by have := HX.out; omega)
    have k3 : IntKind.u64.wrap (r : Int) = (r : Int) := IntWalk.u64_in _ (by omega)
    have k4 : IntKind.u64.wrap ((u : Int) * (x : Int)) = (u : Int) * (x : Int) := IntWalk.u64_in _ (by
     have : ((u * x : Nat) : Int) = (u : Int) * (x : Int) := Int.natCast_mul u x
     omega)
    have k5 : IntKind.u64.wrap ((u : Int) * (x : Int) + (r : Int)) = (u : Int) * (x : Int) + (r : Int) := IntWalk.u64_in _ (by
     have : ((u * x : Nat) : Int) = (u : Int) * (x : Int) := Int.natCast_mul u x
     omega)
    have k6 : IntKind.u64.wrap ((q : Int) + ((u : Int) * (x : Int) + (r : Int))) = (t : Int) := by
     have : ((u * x : Nat) : Int) = (u : Int) * (x : Int) := Int.natCast_mul u x
     have := HE.out
     rw [IntWalk.u64_in _ (by omega)]
     omega
    clear e1 hnext l1 l2 l3 u1 r1 q1 ht hu hr hkb hok
    rw [show ((t % 4294967296 : Nat) : Int) = (t : Int) % 4294967296 by omega] at hset
    have HSET := Lh hset
    clear hset
    go_wp2
    go_roundw
    case rel => exact ⟨k + 1, _, t / 4294967296, by go_num, by go_num, by omega, HSET, HNX, hbw.setCell (Nat.le_refl _) _⟩
    case measure => simp [intOf]; omega
   ·have HZ := Lh (show k = b.length by rw [HBL.out]; omega)
    have q1 := HT.out.low
    have k1 : IntKind.u32.wrap (q : Int) = (q : Int) := IntWalk.u32_in _ (by omega)
    have HT2 := Lh (HZ.out ▸ HT.out : AddT R o b x b.length S q)
    clear q1
    go_wp2
    go_ret
    exact ⟨S, q, rfl, HS.out, HT2.out, hbw⟩
structure Only (g : Nat) (w w' : World) : Prop where
 below : Below g w w'
 far : ∀ k, k ≠ g → w'.heap[k]? = w.heap[k]?
theorem Only.refl (g : Nat) (w : World) : Only g w w := ⟨Below.refl _ _, fun _ _ => rfl⟩
theorem Only.trans {g : Nat} {a b c : World} (h : Only g a b) (k : Only g b c) : Only g a c := ⟨h.below.trans k.below, fun i hi => (k.far i hi).trans (h.far i hi)⟩
theorem Only.setCell {g i : Nat} {a w : World} (h : Only g a w) (u : Value) : Only g a (w.setCell ⟨g, i, none⟩ u) :=
 ⟨h.below.setCell (Nat.le_refl _) u, fun k hk => (Below.heap_setCell w ⟨g, i, none⟩ u k hk).trans (h.far k hk)⟩
theorem Only.drewN {g : Nat} {a w : World} (h : Only g a w) (n : Nat) : Only g a (w.drewN n) := ⟨Ae h.below n, h.far⟩
theorem Row.only {w w' : World} {g k : Nat} {R : List Nat} (h : Row w k R) (hk : k ≠ g) (hb : Only g w w') : Row w' k R := (hb.far k hk).trans h
def Ahk (g : Nat) (R : List Nat) (o : Nat) (b : List Nat) (x : Nat) (w : World) (e : Ending) (w' : World) : Prop :=
 ∃ S q, e = .returned (.int .u32 (q : Nat)) ∧ Row w' g S ∧ AddT R o b x b.length S q ∧ Only g w w'
theorem Rg (g o n c : Nat) (R : List Nat) (A : Option Addr) (m d : Nat) (b : List Nat) (x B : Nat) (w : World) (hR : Row w g R) (hRw : Ws R) (ho : o + n ≤ R.length) (hmn : m ≤ n) (hbl : b.length = m)
  (hB : RW w B A b) (hgB : B ≤ g) (hx : x < 4294967296) (hm : R.length ≤ 35184372088832) :
  Cp 245 #[.slice (some ⟨g, o, none⟩) n c, .slice A m d, .int .u32 x] w (Ahk g R o b x w) := by
 rcases Nat.eq_zero_or_pos m with h0 | h0
 ·subst h0
  obtain rfl : b = [] := List.eq_nil_of_length_eq_zero hbl
  have HR := Lh hR
  have HW := Lh hRw
  clear hR hRw ho hmn hbl hB hgB hx hm
  go_enter Tryz.func245, Tryz.ntmps245
  go_wp2
  go_loop [12, 7] (fun i v => i = .int .i64 0 ∧ v = .int .u64 0) (fun _ _ => 0)
  case atStart => exact ⟨rfl, rfl⟩
  case round =>
   obtain ⟨rfl, rfl⟩ := hrel
   go_wp2
   go_ret
   exact ⟨R, 0, rfl, HR.out, AddT.start o [] x HW.out, Only.refl _ _⟩
 ·obtain ⟨a, p, rfl, hab, hc⟩ := hB.2 (by omega)
  have HBW := Lh hB.1
  have HRW := Lh hRw
  have HBL := Lh hbl
  have HC := Lh hc
  have HX := Lh hx
  have HR := Lh hR
  have hm1 : (m : Int) ≤ (n : Int) := by omega
  have hn1 : (n : Int) ≤ 35184372088832 := by omega
  have HO := Lh ho
  have hag : a < g := by omega
  have h0' : (0 : Int) ≤ (x : Int) := by omega
  clear hR hRw ho hmn hbl hB hx hm hc h0
  go_enter Tryz.func245, Tryz.ntmps245
  go_wp2
  go_loopw [12, 7] (fun i v wr => ∃ (k : Nat) (S : List Nat) (q : Nat), i = .int .i64 k ∧ v = .int .u64 (q : Nat) ∧ k ≤ m ∧ Hid (Row wr g S) ∧ Hid (AddT R o b x k S q) ∧ Only g w wr) (fun i _ _ => m - (intOf i).toNat)
  case atStart => exact ⟨0, R, 0, rfl, rfl, Nat.zero_le _, HR, Lh (AddT.start o b x HRW.out), Only.refl _ _⟩
  case round =>
   obtain ⟨k, S, q, rfl, rfl, hk, HS, HT, hbw⟩ := hrel
   by_cases hlt : k < m
   ·have hkb : k < b.length := by rw [HBL.out]; exact hlt
    have hok : o + k < R.length := by have := HO.out; omega
    obtain ⟨e1, hnext⟩ := HT.out.next HRW.out HBW.out HX.out hkb hok
    have hS := HS.out.cell (o + k) (by rw [HT.out.len]; exact hok)
    have hfz := HS.out.frozen (o + k)
    have hcl := HC.out k _ (getD_some hkb)
    rw [← hbw.below.cell (p := ⟨a, p + k, none⟩) hag] at hcl
    obtain ⟨l1, l2, l3⟩ := Nh (o := o) (k := k) (q := q) HRW.out HBW.out HX.out HT.out.low
    have hset := HS.out.set (o + k) (Jm R o b x k q % 4294967296)
    have HE := Lh (show Jm R o b x k q = q + (b.getD k 0 * x + R.getD (o + k) 0) from rfl)
    have u1 := HBW.out.getD k
    have r1 := HRW.out.getD (o + k)
    have q1 := HT.out.low
    rw [e1] at hS
    obtain ⟨t, ht⟩ : ∃ t, Jm R o b x k q = t := ⟨_, rfl⟩
    obtain ⟨u, hu⟩ : ∃ u, b.getD k 0 = u := ⟨_, rfl⟩
    obtain ⟨r, hr⟩ : ∃ r, R.getD (o + k) 0 = r := ⟨_, rfl⟩
    rw [ht, hu, hr] at HE
    rw [ht] at hnext hset l3
    rw [hu] at hcl l1 l2 u1
    rw [hr] at hS l2 r1
    have HNX := Lh hnext
    have k1 : IntKind.u64.wrap (u : Int) = (u : Int) := IntWalk.u64_in _ (by omega)
    have k2 : IntKind.u64.wrap (x : Int) = (x : Int) := IntWalk.u64_in _ (by have := HX.out; omega)
    have k3 : IntKind.u64.wrap (r : Int) = (r : Int) := IntWalk.u64_in _ (by omega)
    have k4 : IntKind.u64.wrap ((u : Int) * (x : Int)) = (u : Int) * (x : Int) := IntWalk.u64_in _ (by
     have : ((u * x : Nat) : Int) = (u : Int) * (x : Int) := Int.natCast_mul u x
     omega)
    have k5 : IntKind.u64.wrap ((u : Int) * (x : Int) + (r : Int)) = (u : Int) * (x : Int) + (r : Int) := IntWalk.u64_in _ (by
     have : ((u * x : Nat) : Int) = (u : Int) * (x : Int) := Int.natCast_mul u x
     omega)
    have k6 : IntKind.u64.wrap ((q : Int) + ((u : Int) * (x : Int) + (r : Int))) = (t : Int) := by
     have : ((u * x : Nat) : Int) = (u : Int) * (x : Int) := Int.natCast_mul u x
     have := HE.out
     rw [IntWalk.u64_in _ (by omega)]
     omega
    clear e1 hnext l1 l2 l3 u1 r1 q1 ht hu hr hkb hok
    rw [show ((t % 4294967296 : Nat) : Int) = (t : Int) % 4294967296 by omega] at hset
    have HSET := Lh hset
    clear hset
    go_wp2
    go_roundw
    case rel => exact ⟨k + 1, _, t / 4294967296, by go_num, by go_num, by omega, HSET, HNX, hbw.setCell _⟩
    case measure => simp [intOf]; omega
   ·have HZ := Lh (show k = b.length by rw [HBL.out]; omega)
    have q1 := HT.out.low
    have k1 : IntKind.u32.wrap (q : Int) = (q : Int) := IntWalk.u32_in _ (by omega)
    have HT2 := Lh (HZ.out ▸ HT.out : AddT R o b x b.length S q)
    clear q1
    go_wp2
    go_ret
    exact ⟨S, q, rfl, HS.out, HT2.out, hbw⟩
def Am (v : Nat) : Bool := decide (1024 < (wds v).length)
def NatPost (v : Nat) (w : World) (e : Ending) (w' : World) : Prop :=
 ∃ A n c k, e = .returned (.tuple #[.slice A n c, .int .i64 (k : Nat)]) ∧ (if Am v = true then A = none ∧ n = 0 ∧ c = 0 ∧ k = 3 else n = (wds v).length ∧ n ≤ c ∧ k = 0 ∧ RW w' w'.heap.size A (wds v)) ∧ Below w.heap.size w w'
def Do (k : Nat) (w : World) (e : Ending) (w' : World) : Prop := e = .returned (.tuple #[.slice none 0 0, .int .i64 (k : Nat)]) ∧ Below w.heap.size w w'
theorem NatPost.long {v : Nat} {w w' : World} (h : Am v = true) (hb : Below w.heap.size w w') : NatPost v w (.returned (.tuple #[.slice none 0 0, .int .i64 3])) w' :=
 ⟨none, 0, 0, 3, rfl, by rw [if_pos h]; exact ⟨rfl, rfl, rfl, rfl⟩, hb⟩
theorem NatPost.ok {v : Nat} {w w' : World} {A : Option Addr} {n c : Nat} (h : Am v = false) (hn : n = (wds v).length) (hc : n ≤ c) (hr : RW w' w'.heap.size A (wds v)) (hb : Below w.heap.size w w') : NatPost v w (.returned (.tuple #[.slice A n c, .int .i64 0])) w' :=
 ⟨A, n, c, 0, rfl, by rw [if_neg (by rw [h]; simp)]; exact ⟨hn, hc, rfl, hr⟩, hb⟩
theorem NatPost.from_ {v : Nat} {w w1 w' : World} {e : Ending} (hb : Below w.heap.size w w1) (h : NatPost v w1 e w') : NatPost v w e w' := by
 obtain ⟨A, n, c, k, h1, h2, h3⟩ := h
 exact ⟨A, n, c, k, h1, h2, Aa hb h3⟩
theorem Kp {l : List Nat} (h : Ws l) : Am (val l) = decide (1024 < (nrm l).length) := by unfold Am; rw [Bh h]
theorem I9 (A : Option Addr) (n c : Nat) (l : List Nat) (B : Nat) (w : World) (hn : l.length = n) (hc : n ≤ c) (hm : n ≤ 35184372088832) (h : RW w B A l) :
  Ct 230 #[.slice A n c] (.bool (Am (val l))) w := by
 have c1 := (Bo A n c l B w hn hc hm h).mono (fun e w' x => SlPost.of h.1.nrm x)
 have hle := Ba l
 rw [Kp h.1]
 obtain ⟨m, hm0⟩ : ∃ m, (nrm l).length = m := ⟨_, rfl⟩
 have h1 : (m : Int) ≤ 35184372088832 := by omega
 have HM := Lh hm0
 rw [hm0]
 clear hn hc hm h hle hm0
 go_enter Tryz.func230, Tryz.ntmps230
 go_wp2_with fail
 refine c1.mono ?_
 rintro e w' ⟨v, rfl, ⟨A2, c2, rfl, _, _⟩, hb⟩
 rw [HM.out]
 go_wp2
 go_ret
 exact ⟨He (decide_eq_decide.2 (by omega)), hb⟩
abbrev Fr (w : World) (v u : Value) : World := w.alloc (.cells #[v, u] 121)
abbrev lone (w : World) (v : Value) : World := w.alloc (.cells #[v] 121)
theorem Abp (w : World) (v u : Value) : (Fr w v u).cell? ⟨w.heap.size, 0, none⟩ = some v := by
 rw [cell_of_row _ _ _ _ _ _ (heap_alloc_new w (.cells #[v, u] 121))]; rfl
theorem Aaj (w : World) (v u : Value) : (Fr w v u).cell? ⟨w.heap.size, 1, none⟩ = some u := by
 rw [cell_of_row _ _ _ _ _ _ (heap_alloc_new w (.cells #[v, u] 121))]; rfl
theorem Abn (w : World) (v : Value) : (lone w v).cell? ⟨w.heap.size, 0, none⟩ = some v := by
 rw [cell_of_row _ _ _ _ _ _ (heap_alloc_new w (.cells #[v] 121))]; rfl
theorem Cj (A C : Option Addr) (n c m d : Nat) (l k : List Nat) (w : World) (hn : l.length = n) (hc : n ≤ c) (hm : n ≤ 35184372088832) (h : RW w w.heap.size A l)
    (gn : k.length = m) (gc : m ≤ d) (gm : m ≤ 35184372088832) (g : RW w w.heap.size C k) :
    Cp 174 #[.slice (some ⟨w.heap.size, 0, none⟩) 2 2] (Fr w (.slice A n c) (.slice C m d)) fun e w' => e = .returned (.bool (Am (val l) || Am (val k))) ∧ Fr w (.slice A n c) (.slice C m d) = w' := by
  have hp : Below w.heap.size w (Fr w (.slice A n c) (.slice C m d)) := (Below.refl _ _).alloc (Nat.le_refl _) _
  have c1 := As A n c l w.heap.size _ hn hc hm (h.below hp)
  have c2 := As C m d k w.heap.size _ gn gc gm (g.below hp)
  have d1 := Abp w (.slice A n c) (.slice C m d)
  have d2 := Aaj w (.slice A n c) (.slice C m d)
  have e1 := Kp h.1
  have e2 := Kp g.1
  have hl1 := Ba l
  have hl2 := Ba k
  obtain ⟨N, hN⟩ : ∃ N, (nrm l).length = N := ⟨_, rfl⟩
  obtain ⟨M, hM⟩ : ∃ M, (nrm k).length = M := ⟨_, rfl⟩
  rw [hN] at c1 e1
  rw [hM] at c2 e2
  rw [e1, e2]
  have hN1 : (N : Int) ≤ 35184372088832 := by omega
  have hM1 : (M : Int) ≤ 35184372088832 := by omega
  clear hp h g hn hc hm gn gc gm e1 e2 hl1 hl2 hN hM
  generalize Fr w (.slice A n c) (.slice C m d) = W at c1 c2 d1 d2 ⊢
  by_cases hA : 1024 < N
  · have hA' : (1024 : Int) < (N : Int) := by omega
    rw [show decide (1024 < N) = true from decide_eq_true hA, Bool.true_or]
    clear hA
    go_enter Tryz.func174, Tryz.ntmps174
    go_wp2
    go_loop [7] (fun i => i = .int .i64 0) (fun _ => 0)
    case atStart => exact rfl
    case round =>
      obtain rfl := hrel
      go_wp2_with fail
      refine c1.mono ?_
      rintro e w' ⟨rfl, rfl⟩
      go_wp2
      go_ret
      exact ⟨rfl, rfl⟩
  · have hA' : ¬ (1024 : Int) < (N : Int) := by omega
    rw [show decide (1024 < N) = false from decide_eq_false hA, Bool.false_or]
    clear hA
    have rel2 : decide (1024 < M) = true ∧ (1024 : Int) < (M : Int) ∨ decide (1024 < M) = false ∧ ¬ (1024 : Int) < (M : Int) := by
      by_cases hB : 1024 < M
      · exact .inl ⟨decide_eq_true hB, by omega⟩
      · exact .inr ⟨decide_eq_false hB, by omega⟩
    rcases rel2 with ⟨hb, hB⟩ | ⟨hb, hB⟩
    all_goals
      rw [hb]
      clear hb
      go_enter Tryz.func174, Tryz.ntmps174
      go_wp2
      go_loop [7] (fun i => i = .int .i64 0 ∨ i = .int .i64 1 ∨ (i = .int .i64 2 ∧ ¬ (1024 : Int) < (M : Int))) (fun i => 2 - (intOf i).toNat)
      case atStart => exact .inl rfl
      case round =>
        rcases hrel with rfl | rfl | ⟨rfl, hB2⟩
        · go_wp2_with fail
          refine c1.mono ?_
          rintro e w' ⟨rfl, rfl⟩
          go_wp2
          go_round
          case rel => exact .inr (.inl rfl)
          case measure => simp [intOf]
        · go_wp2_with fail
          refine c2.mono ?_
          rintro e w' ⟨rfl, rfl⟩
          go_wp2
          first
            | (go_ret; exact ⟨rfl, rfl⟩)
            | (go_round
               case rel => exact .inr (.inr ⟨rfl, by omega⟩)
               case measure => simp [intOf])
        · first
            | (exact absurd hB hB2)
            | (go_wp2
               go_ret
               exact ⟨rfl, rfl⟩)
theorem D0 (A : Option Addr) (n c : Nat) (l : List Nat) (w : World) (hn : l.length = n) (hc : n ≤ c) (hm : n ≤ 35184372088832) (h : RW w w.heap.size A l) :
  Cp 174 #[.slice (some ⟨w.heap.size, 0, none⟩) 1 1] (lone w (.slice A n c)) fun e w' => e = .returned (.bool (Am (val l))) ∧ lone w (.slice A n c) = w' := by
 have hp : Below w.heap.size w (lone w (.slice A n c)) := (Below.refl _ _).alloc (Nat.le_refl _) _
 have c1 := As A n c l w.heap.size _ hn hc hm (h.below hp)
 have d1 := Abn w (.slice A n c)
 have e1 := Kp h.1
 have hl1 := Ba l
 obtain ⟨N, hN⟩ : ∃ N, (nrm l).length = N := ⟨_, rfl⟩
 rw [hN] at c1 e1
 rw [e1]
 have hN1 : (N : Int) ≤ 35184372088832 := by omega
 clear hp h hn hc hm e1 hl1 hN
 generalize lone w (.slice A n c) = W at c1 d1 ⊢
 by_cases hA : 1024 < N
 ·have hA' : (1024 : Int) < (N : Int) := by omega
  rw [show decide (1024 < N) = true from decide_eq_true hA]
  clear hA
  go_enter Tryz.func174, Tryz.ntmps174
  go_wp2
  go_loop [7] (fun i => i = .int .i64 0) (fun _ => 0)
  case atStart => exact rfl
  case round =>
   obtain rfl := hrel
   go_wp2_with fail
   refine c1.mono ?_
   rintro e w' ⟨rfl, rfl⟩
   go_wp2
   go_ret
   exact ⟨rfl, rfl⟩
 ·have hA' : ¬ (1024 : Int) < (N : Int) := by omega
  rw [show decide (1024 < N) = false from decide_eq_false hA]
  clear hA
  go_enter Tryz.func174, Tryz.ntmps174
  go_wp2
  go_loop [7] (fun i => i = .int .i64 0 ∨ i = .int .i64 1) (fun i => 1 - (intOf i).toNat)
  case atStart => exact .inl rfl
  case round =>
   rcases hrel with rfl | rfl
   ·go_wp2_with fail
    refine c1.mono ?_
    rintro e w' ⟨rfl, rfl⟩
    go_wp2
    go_round
    case rel => exact .inr rfl
    case measure => simp [intOf]
   ·go_wp2
    go_ret
    exact ⟨rfl, rfl⟩
theorem Ge (A : Option Addr) (n c : Nat) (l : List Nat) (w : World) (hn : l.length = n) (hc : n ≤ c) (hm : n ≤ 35184372088832) (h : RW w w.heap.size A l) :
  Cp 175 #[.slice A n c] w (NatPost (val l) w) := by
 have c1 := D0 A n c l w hn hc hm h
 have hp : Below w.heap.size w (lone w (.slice A n c)) := (Below.refl _ _).alloc (Nat.le_refl _) _
 have c2 := As A n c l w.heap.size _ hn hc hm (h.below hp)
 cases hl : Am (val l)
 ·rw [hl] at c1
  have HL := Lh hl
  rw [Bh h.1] at c2
  have HR := Lh (show RW (lone w (.slice A n c)) (lone w (.slice A n c)).heap.size A (wds (val l)) by rw [← Bh h.1]; exact (h.step hp).nrm)
  have HP := Lh hp
  clear hn hc hm h hl hp
  go_enter Tryz.func175, Tryz.ntmps175
  go_wp2_with fail
  refine c1.mono ?_
  rintro e w1 ⟨rfl, rfl⟩
  go_wp2_with fail
  refine c2.mono ?_
  rintro e w1 ⟨rfl, rfl⟩
  go_wp2
  go_ret2
  exact NatPost.ok HL.out rfl (Nat.le_refl _) HR.out HP.out
 ·rw [hl] at c1
  have HL := Lh hl
  have HP := Lh hp
  clear hn hc hm h hl hp c2
  go_enter Tryz.func175, Tryz.ntmps175
  go_wp2_with fail
  refine c1.mono ?_
  rintro e w1 ⟨rfl, rfl⟩
  go_wp2
  go_ret2
  exact NatPost.long HL.out HP.out
structure MulT (a b : List Nat) (i : Nat) (P : List Nat) : Prop where
 len : P.length = a.length + b.length
 ws : Ws P
 zeros : ∀ j, i + b.length ≤ j → P.getD j 0 = 0
 sum : val (P.take (i + b.length)) = val (a.take i) * val b
theorem MulT.start (a b : List Nat) : MulT a b 0 (List.replicate (a.length + b.length) 0) :=
 ⟨List.length_replicate, Ws.zeros _, fun j _ => Pp _ j, by
  rw [List.take_replicate, Ha]; simp [val]⟩
theorem MulT.next {a b : List Nat} {i : Nat} {P S : List Nat} {q : Nat} (h : MulT a b i P) (hi : i < a.length) (hS : AddT P i b (a.getD i 0) b.length S q) : MulT a b (i + 1) (S.set (i + b.length) q) := by
 obtain ⟨h1, h2, h3, h4⟩ := h
 obtain ⟨g1, g2, g3, g4, g5⟩ := hS
 refine ⟨by rw [List.length_set]; omega, g2.set g5, fun j hj => ?_, ?_⟩
 ·rw [Ao (by omega), g3 j (by omega), h3 j (by omega)]
 ·have hb : b.take b.length = b := List.take_of_length_le (Nat.le_refl _)
  rw [hb] at g4
  have e1 : (S.set (i + b.length) q).take (i + 1 + b.length) = (S.set (i + b.length) q).take (i + b.length + 1) := by congr 1; omega
  rw [e1, Br _ _ (by rw [List.length_set]; omega), Bb (by omega), Br a i hi]
  rw [Cn (l := S.set (i + b.length) q) (m := S) (i + b.length) (by rw [List.length_set]; omega) (by omega) (fun j hj => Ao (by omega))]
  rw [Gg S i b.length (by omega)]
  rw [Cn (l := S) (m := P) i (by omega) (by omega) (fun j hj => g3 j (by omega))]
  rw [Gg P i b.length (by omega)] at h4
  rw [Nat.pow_add]
  have e2 : val (P.take i) + 4294967296 ^ i * val ((S.drop i).take b.length) + 4294967296 ^ i * 4294967296 ^ b.length * q = val (P.take i) + 4294967296 ^ i * (val ((S.drop i).take b.length) + 4294967296 ^ b.length * q) := by grind
  rw [e2, g4]
  grind
theorem MulT.whole {a b : List Nat} {P : List Nat} (h : MulT a b a.length P) : val P = val a * val b := by
 have := h.sum
 rw [List.take_of_length_le (by rw [h.len]; exact Nat.le_refl _), List.take_of_length_le (Nat.le_refl _)] at this
 exact this
def Nt (v u : Nat) (w : World) (e : Ending) (w' : World) : Prop := if (Am v || Am u) = true then Do 3 w e w' else NatPost (v * u) w e w'
theorem Ej {l : List Nat} (h : Ws l) (hl : Am (val l) = false) : (nrm l).length ≤ 1024 := by
 rw [Kp h] at hl
 have := of_decide_eq_false hl
 omega
theorem Aav (A C : Option Addr) (n c m d : Nat) (l k : List Nat) (w : World) (hn : l.length = n) (hc : n ≤ c) (hm : n ≤ 35184372088832) (h : RW w w.heap.size A l)
  (gn : k.length = m) (gc : m ≤ d) (gm : m ≤ 35184372088832) (g : RW w w.heap.size C k) (hl : (Am (val l) || Am (val k)) = false) :
  Cp 227 #[.slice A n c, .slice C m d] w (NatPost (val l * val k) w) := by
 have c1 := Cj A C n c m d l k w hn hc hm h gn gc gm g
 have hp : Below w.heap.size w (Fr w (.slice A n c) (.slice C m d)) := (Below.refl _ _).alloc (Nat.le_refl _) _
 rw [hl] at c1
 obtain ⟨hl1, hl2⟩ : Am (val l) = false ∧ Am (val k) = false := by simpa using hl
 have c2 := As A n c l w.heap.size _ hn hc hm (h.below hp)
 have c3 := As C m d k w.heap.size _ gn gc gm (g.below hp)
 have n1 := Ej h.1 hl1
 have n2 := Ej g.1 hl2
 obtain ⟨a, ha⟩ : ∃ a, nrm l = a := ⟨_, rfl⟩
 obtain ⟨b, hb⟩ : ∃ b, nrm k = b := ⟨_, rfl⟩
 have hA := h.nrm
 have hB := g.nrm
 rw [ha] at n1 c2 hA
 rw [hb] at n2 c3 hB
 rw [← Aq l, ← Aq k, ha, hb]
 obtain ⟨N, hN⟩ : ∃ N, a.length = N := ⟨_, rfl⟩
 obtain ⟨M, hM⟩ : ∃ M, b.length = M := ⟨_, rfl⟩
 rw [hN] at n1 c2
 rw [hM] at n2 c3
 clear h g hn hc hm gn gc gm hl hl1 hl2 ha hb
 obtain ⟨W, hW⟩ : ∃ W, Fr w (.slice A n c) (.slice C m d) = W := ⟨_, rfl⟩
 rw [hW] at c1 c2 c3 hp
 have HW := Lh hW
 have hmk := run_make_row' (P := Tryz.prog) 121 129 (.int .u32 0) 4 Tryz.underlying121 Ef rfl .i64 .i64 (N + M) (by omega) (by omega) W
 rw [show ((N + M : Nat) : Int) = (N : Int) + (M : Int) by omega] at hmk
 have hrow := Row.made W (N + M)
 have hN1 : (N : Int) ≤ 1024 := by omega
 have hM1 : (M : Int) ≤ 1024 := by omega
 have HN := Lh hN
 have HM := Lh hM
 have HA := Lh hA
 have HB := Lh hB
 have hgW := hp.size
 have HP := Lh hp
 have HROW := Lh hrow
 have hbl0 : Below w.heap.size w (W.alloc (.cells (madeCells #[.int .u32 0] (N + M)) 129)) := hp.alloc hp.size _
 have HBL := Lh hbl0
 clear hA hB hN hM hp hrow n1 n2 hbl0 hW
 go_enter Tryz.func227, Tryz.ntmps227
 go_wp2_with fail
 rw [show w.alloc (.cells #[.slice A n c, .slice C m d] 121) = W from HW.out]
 refine c1.mono ?_
 rintro e w1 ⟨rfl, rfl⟩
 go_wp2_with fail
 refine c2.mono ?_
 rintro e w1 ⟨rfl, rfl⟩
 go_wp2_with fail
 refine c3.mono ?_
 rintro e w1 ⟨rfl, rfl⟩
 clear c1 c2 c3
 go_wp2
 go_loopw [25] (fun i wr => ∃ (q : Nat) (P : List Nat), i = .int .i64 q ∧ q ≤ N ∧ Hid (Row wr W.heap.size P) ∧ Hid (MulT a b q P) ∧ Below w.heap.size w wr) (fun i _ => N - (intOf i).toNat)
 case atStart => exact ⟨0, _, rfl, Nat.zero_le _, HROW, Lh (by have := MulT.start a b; rw [HN.out, HM.out] at this; exact this), HBL.out⟩
 case round =>
  obtain ⟨q, P, rfl, hq, HR, HT, hbw⟩ := hrel
  by_cases hlt : q < N
  ·have hqa : q < a.length := by rw [HN.out]; exact hlt
   obtain ⟨ab, ao, rfl, hab, hca⟩ := HA.out.2 (by omega)
   have hcl := hca q _ (getD_some hqa)
   rw [← hbw.cell (p := ⟨ab, ao + q, none⟩) hab] at hcl
   have hx := HA.out.1.getD q
   have hPl : P.length = N + M := by rw [HT.out.len, HN.out, HM.out]
   obtain ⟨x, hxe⟩ : ∃ x, a.getD q 0 = x := ⟨_, rfl⟩
   rw [hxe] at hcl hx
   have C1 := Lh (Uz W.heap.size q (N + M - q) (N + M - q) P C M M b x w.heap.size wr HR.out HT.out.ws (by omega) (by omega) HM.out (HB.out.below hbw) hgW hx (by omega))
   have HX := Lh hxe
   have HPL := Lh hPl
   have hq1 : (q : Int) < (N : Int) := by omega
   have hq2 : ((N + M : Nat) == q) = false := by simp; omega
   have HNX := Lh (fun S r (h : AddT P q b x b.length S r) => HT.out.next hqa (by rw [hxe]; exact h))
   clear hqa hab hca hx hPl hxe
   go_wp2_with fail
   refine C1.out.mono ?_
   rintro e w2 ⟨S, r, rfl, hrow2, hadd, hb2⟩
   have hSl : S.length = N + M := by rw [hadd.len]; exact HPL.out
   have hcell2 := hrow2.cell (q + M) (by omega)
   have hfz2 := hrow2.frozen (q + M)
   have HSET := Lh (hrow2.set (q + M) r)
   have HMT := Lh (show MulT a b (q + 1) (S.set (q + M) r) by have := HNX.out S r hadd; rw [HM.out] at this; exact this)
   have hbw2 : Below w.heap.size w w2 := hbw.trans (hb2.mono hgW)
   clear hrow2 hadd hSl C1
   go_wp2
   go_roundw
   case rel => exact ⟨q + 1, _, by go_num, by omega, HSET, HMT, hbw2.setCell hgW _⟩
   case measure => simp [intOf]; omega
  ·have hqN : q = N := by omega
   have HMT := Lh (show MulT a b a.length P by rw [HN.out, ← hqN]; exact HT.out)
   have hPl : P.length = N + M := by rw [HT.out.len, HN.out, HM.out]
   have hlt2 := HR.out.lt
   have C1 := Lh (Ge (some ⟨W.heap.size, 0, none⟩) (N + M) (N + M) P wr hPl (Nat.le_refl _) (by omega) ((HR.out.rw0 HT.out.ws).more hlt2))
   have HV := Lh HMT.out.whole
   clear hPl hqN hlt2
   go_wp2_with fail
   refine C1.out.mono ?_
   rintro e w2 h
   have h2 := NatPost.from_ hbw h
   rw [HV.out] at h2
   obtain ⟨A2, n2, c2, k2, rfl, h3, h4⟩ := h2
   have H3 := Lh h3
   have H4 := Lh h4
   clear h h3 h4 C1
   go_wp2
   go_ret2
   exact ⟨A2, n2, c2, k2, rfl, H3.out, H4.out⟩
theorem Akq (A C : Option Addr) (n c m d : Nat) (l k : List Nat) (w : World) (hn : l.length = n) (hc : n ≤ c) (hm : n ≤ 35184372088832) (h : RW w w.heap.size A l)
  (gn : k.length = m) (gc : m ≤ d) (gm : m ≤ 35184372088832) (g : RW w w.heap.size C k) (hl : (Am (val l) || Am (val k)) = true) :
  Cp 227 #[.slice A n c, .slice C m d] w (Do 3 w) := by
 have c1 := Cj A C n c m d l k w hn hc hm h gn gc gm g
 have hp : Below w.heap.size w (Fr w (.slice A n c) (.slice C m d)) := (Below.refl _ _).alloc (Nat.le_refl _) _
 rw [hl] at c1
 have HP := Lh hp
 clear h g hn hc hm gn gc gm hl hp
 go_enter Tryz.func227, Tryz.ntmps227
 go_wp2_with fail
 refine c1.mono ?_
 rintro e w1 ⟨rfl, rfl⟩
 go_wp2
 go_ret2
 exact ⟨rfl, HP.out⟩
theorem Anb (A C : Option Addr) (n c m d : Nat) (l k : List Nat) (w : World) (hn : l.length = n) (hc : n ≤ c) (hm : n ≤ 35184372088832) (h : RW w w.heap.size A l)
  (gn : k.length = m) (gc : m ≤ d) (gm : m ≤ 35184372088832) (g : RW w w.heap.size C k) :
  Cp 227 #[.slice A n c, .slice C m d] w (Nt (val l) (val k) w) := by
 cases hl : (Am (val l) || Am (val k))
 ·exact (Aav A C n c m d l k w hn hc hm h gn gc gm g hl).mono (fun e w' x => by unfold Nt; rw [if_neg (by rw [hl]; simp)]; exact x)
 ·exact (Akq A C n c m d l k w hn hc hm h gn gc gm g hl).mono (fun e w' x => by unfold Nt; rw [if_pos hl]; exact x)
theorem Adl (w : World) (x : Nat) (hx : x < 4294967296) : RW (w.alloc (.cells #[.int .u32 (x : Int)] 129)) (w.heap.size + 1) (some ⟨w.heap.size, 0, none⟩) [x] := ⟨Ws.cons hx Ws.nil, fun _ => by
 refine ⟨w.heap.size, 0, rfl, by omega, fun k u hu => ?_⟩
 rw [Nat.zero_add, cell_of_row _ _ _ _ _ _ (heap_alloc_new w (.cells #[.int .u32 (x : Int)] 129))]
 match k, hu with
 | 0, hu => simp at hu; subst hu; rfl
 | k + 1, hu => simp at hu⟩
theorem Es {v : Nat} (h : v < 4294967296) : Am v = false := by
 unfold Am
 have := Bi (n := v) (k := 1) (by simpa using h)
 exact decide_eq_false (by omega)
theorem NatPost.get {v : Nat} {w w' : World} {e : Ending} (h : NatPost v w e w') (hl : Am v = false) : ∃ A c, e = .returned (.tuple #[.slice A (wds v).length c, .int .i64 0]) ∧ ((wds v).length ≤ c ∧ RW w' w'.heap.size A (wds v)) ∧ Below w.heap.size w w' := by
 obtain ⟨A, n, c, k, h1, h2, h3⟩ := h
 rw [if_neg (by rw [hl]; simp)] at h2
 obtain ⟨rfl, h4, rfl, h5⟩ := h2
 exact ⟨A, c, h1, ⟨h4, h5⟩, h3⟩
open Go.ChangeShapes Go.WideShapes Go.ChangeAt Go.RowKit
theorem own : ownKnob Tryz.prog.godebug = none := by kernel_rfl
theorem An3 : (Tryz.prog.info? 5).map (fun i => (i.zero, i.size, i.bytes)) = some (some (.int .u8 0), 1, 1) := by kernel_rfl
abbrev Own8 (B : Nat) (l : List Nat) (v : Value) (w : World) : Prop := w.ownsRow B 5 1 v l.length (l.map fun u => Value.int .u8 (u : Nat))
theorem Own8.nil (B : Nat) (w : World) : Own8 B [] (.slice none 0 0) w := World.ownsRow_nil _ _ _ _
theorem Own8.snoc {B : Nat} {L : List Nat} {u : Nat} {v : Value} {w : World} (h : w.ownsRow B 5 1 v (L.length + 1) (L.map (fun u => Value.int .u8 (u : Nat)) ++ [Value.int .u8 (u : Nat)])) : Own8 B (L ++ [u]) v w := by
 unfold Own8
 rw [List.length_append, List.map_append]
 exact h
theorem Own8.below {B : Nat} {l : List Nat} {v : Value} {w w' : World} (h : Own8 B l v w) (hb : Below w.heap.size w w') : Own8 B l v w' := by
 refine World.ownsRow.kept (row := none) h ⟨hb.os, hb.tape, hb.output, hb.size, fun k hk _ => hb.block k hk⟩ ?_
 cases v.ownBlock <;> simp
theorem Own8.cell {B : Nat} {l : List Nat} {g n c : Nat} {w : World} (h : Own8 B l (.slice (some ⟨g, 0, none⟩) n c) w) (k : Nat) (hk : k < l.length) :
  w.cell? ⟨g, k, none⟩ = some (.int .u8 (l.getD k 0 : Nat)) ∧ w.frozen? ⟨g, k, none⟩ = false := by
 rcases h.2 with ⟨e, _⟩ | ⟨g', cap, cur, e, hB, hg, hcap, hmax, hcur, htk⟩
 ·cases e
 ·cases e
  refine ⟨?_, by simp [World.frozen?, hg]⟩
  have := World.ownsRow.cells (g := g) h rfl k (.int .u8 (l.getD k 0 : Nat)) (by rw [List.getElem?_map, getD_some hk]; rfl)
  by_cases hz : k = 0
  ·subst hz; simpa [Addr.add] using this
  ·simpa [Addr.add, hz] using this
theorem Own8.set {B : Nat} {l : List Nat} {g n c : Nat} {w : World} (h : Own8 B l (.slice (some ⟨g, 0, none⟩) n c) w) (k u : Nat) :
  Own8 B (l.set k u) (.slice (some ⟨g, 0, none⟩) n c) (w.setCell ⟨g, k, none⟩ (.int .u8 (u : Nat))) := by
 rcases h.2 with ⟨e, _⟩ | ⟨g', cap, cur, e, hB, hg, hcap, hmax, hcur, htk⟩
 ·cases e
 ·cases e
  refine ⟨by rw [List.length_map, List.length_set, Nat.mul_one], .inr ⟨g, c, cur.set! k (.int .u8 (u : Nat)), by rw [List.length_set], hB, ?_, by rw [List.length_set]; exact hcap, hmax, ?_, ?_⟩⟩
  ·simp [World.setCell, Array.getElem?_modify, hg]
  ·simpa using hcur
  ·rw [List.map_set, ← htk]
   simp only [Array.set!_eq_setIfInBounds, Array.toList_setIfInBounds, List.length_set]
   rw [List.take_set]
theorem Own8.row {B : Nat} {l : List Nat} {v : Value} {w : World} (h : Own8 B l v w) (h0 : 0 < l.length) : ∃ g c, v = .slice (some ⟨g, 0, none⟩) l.length c ∧ l.length ≤ c ∧ B ≤ g ∧ g < w.heap.size ∧ c ≤ maxLen := by
 rcases h.2 with ⟨_, h1⟩ | ⟨g, cap, cur, rfl, hB, hg, hcap, hmax, hcur, htk⟩
 ·omega
 ·refine ⟨g, cap, rfl, hcap, hB, ?_, hmax⟩
  rcases Nat.lt_or_ge g w.heap.size with hlt | hge
  ·exact hlt
  ·rw [Array.getElem?_eq_none hge] at hg; cases hg
def Ab (l : List Nat) : ByteArray := ⟨(l.map UInt8.ofNat).toArray⟩
def bl (s : ByteArray) : List Nat := s.data.toList.map UInt8.toNat
theorem Aj {l : List Nat} (h : ∀ u ∈ l, u < 256) : bl (Ab l) = l := by
 unfold bl Ab
 simp only [List.map_map]
 conv => rhs; rw [← List.map_id l]
 refine List.map_congr_left (fun u hu => ?_)
 have := h u hu
 simp
 omega
theorem Ao3 (s : ByteArray) : (bl s).length = s.size := by unfold bl; rw [List.length_map]; rfl
theorem T8 {s t : ByteArray} (h : bl s = bl t) : s = t := by
 apply ByteArray.ext
 apply Array.toList_inj.1
 unfold bl at h
 exact (List.map_inj_right (fun a b hab => UInt8.toNat_inj.1 hab)).1 h
theorem De (s : ByteArray) (k : Nat) (h : k < s.size) : (bl s)[k]? = some (s[k]'h).toNat := by
 unfold bl
 rw [List.getElem?_map]
 have : s.data.toList[k]? = some (s[k]'h) := by rw [Array.getElem?_toList, Array.getElem?_eq_getElem (by exact h)]; rfl
 rw [this]; rfl
theorem Adk (s : ByteArray) (k : Nat) : bl (s.extract k s.size) = (bl s).drop k := by
 unfold bl
 rw [← List.map_drop]
 congr 1
 simp only [ByteArray.data_extract, Array.toList_extract, List.extract]
 exact List.take_of_length_le (by simp)
theorem Xx (l : List Nat) (s : ByteArray) : (l.map fun b : Nat => (b : Int)).foldl (fun r n => r.push (UInt8.ofNat n.toNat)) s = ⟨s.data ++ (l.map UInt8.ofNat).toArray⟩ := by
 induction l generalizing s with
 | nil => simp
 | cons b r ih =>
  simp only [List.map_cons, List.foldl_cons, ih]
  apply ByteArray.ext
  simp [ByteArray.push]
theorem Wj {B : Nat} {l : List Nat} {v : Value} {w : World} (h : Own8 B l v w) : (convert 66 9 v).run Tryz.prog w = .ok (.string (Ab l)) w := by
 rcases h.2 with ⟨rfl, hn⟩ | ⟨g, cap, cur, rfl, hB, hg, hcap, hmax, hcur, htk⟩
 ·have : l = [] := List.eq_nil_of_length_eq_zero hn
  subst this
  rfl
 ·have hc := World.ownsRow.cells (g := g) h rfl
  rw [run_convert_bytes_string w 66 9 5 _ _ _ Tryz.underlying66 Tryz.underlying5 Tryz.underlying9]
  have hl := run_loadCells_list (P := Tryz.prog) w ⟨g, 0, none⟩ (l.map fun u => Value.int .u8 (u : Nat)) hc
  rw [List.length_map] at hl
  rw [run_bytesToString w ⟨g, 0, none⟩ l.length cap (l.map fun b : Nat => (b : Int)) (by rw [hl]; simp [Function.comp_def])]
  rw [Xx]
  simp [Ab]
theorem Dz (A : Option Addr) (n c i : Nat) (l : List Nat) (B : Nat) (w : World) (hn : l.length = n) (hm : n ≤ 35184372088832) (h : RW w B A l) :
  Cq 178 #[.slice A n c, .int .i64 i] (.int .u32 (l.getD i 0 : Nat)) w := by
 by_cases hi : i < n
 ·obtain ⟨b, off, rfl, _, hc⟩ := h.2 (by omega)
  have hcell := hc i _ (getD_some (by omega))
  obtain ⟨u, hu⟩ : ∃ u, l.getD i 0 = u := ⟨_, rfl⟩
  rw [hu] at hcell ⊢
  have h0 : decide ((i : Int) < 0) = false := by simp
  have h1 : decide (n ≤ i) = false := by simp; omega
  have h3 : (i : Int) < (n : Int) := by omega
  have h2 : (n : Int) ≤ 35184372088832 := by omega
  clear hn hm h hc hu hi
  go_enter Tryz.func178, Tryz.ntmps178
  go_wp2
  go_ret
  exact ⟨rfl, rfl⟩
 ·have e : l.getD i 0 = 0 := F7 (by omega)
  rw [e]
  have h0 : decide ((i : Int) < 0) = false := by simp
  have h1 : (n : Int) ≤ (i : Int) := by omega
  clear hn hm h e hi
  go_enter Tryz.func178, Tryz.ntmps178
  go_wp2
  go_ret
  exact ⟨rfl, rfl⟩
theorem Ah9 (A : Option Addr) (n c : Nat) (w : World) :
  Cq 178 #[.slice A n c, .int .i64 (-1)] (.int .u32 0) w := by
 go_enter Tryz.func178, Tryz.ntmps178
 go_wp2
 go_ret
 exact ⟨rfl, rfl⟩
theorem OwnW.snoc {B : Nat} {L : List Nat} {u : Nat} {v : Value} {w : World} (h : w.ownsRow B 129 1 v (L.length + 1) (L.map (fun u => Value.int .u32 (u : Nat)) ++ [Value.int .u32 (u : Nat)])) : OwnW B (L ++ [u]) v w := by
 unfold OwnW
 rw [List.length_append, List.map_append]
 exact h
theorem Oi (c : Nat) (w : World) (hc : c < 256) :
  Cq 217 #[.int .u8 c] (.int .i64 (dgt c : Nat)) w := by
 have k0 : IntKind.u8.wrap ((c : Int) - 48) = (c : Int) - 48 ∨ ¬ (48 ≤ c) := by
  by_cases h : 48 ≤ c
  ·exact .inl (by rw [IntKind.wrap_u8]; omega)
  ·exact .inr h
 have k1 : IntKind.u8.wrap ((c : Int) - 97) = (c : Int) - 97 ∨ ¬ (97 ≤ c) := by
  by_cases h : 97 ≤ c
  ·exact .inl (by rw [IntKind.wrap_u8]; omega)
  ·exact .inr h
 have k2 : IntKind.u8.wrap ((c : Int) - 65) = (c : Int) - 65 ∨ ¬ (65 ≤ c) := by
  by_cases h : 65 ≤ c
  ·exact .inl (by rw [IntKind.wrap_u8]; omega)
  ·exact .inr h
 unfold dgt
 by_cases h1 : 48 ≤ c ∧ c ≤ 57
 ·rw [if_pos h1]
  have a1 : (48 : Int) ≤ (c : Int) := by omega
  have a2 : (c : Int) ≤ 57 := by omega
  have e := k0.resolve_right (fun h => h h1.1)
  have e2 : IntKind.i64.wrap ((c : Int) - 48) = ((c - 48 : Nat) : Int) := by rw [IntWalk.i64_in _ (by omega)]; omega
  clear h1 k0 k1 k2 hc
  go_enter Tryz.func217, Tryz.ntmps217
  go_wp2
  go_ret
  exact ⟨by first | rfl | (rw [e2]), rfl⟩
 ·rw [if_neg h1]
  by_cases h2 : 97 ≤ c ∧ c ≤ 122
  ·rw [if_pos h2]
   have a1 : (48 : Int) ≤ (c : Int) := by omega
   have a2 : ¬ (c : Int) ≤ 57 := by omega
   have a3 : (97 : Int) ≤ (c : Int) := by omega
   have a4 : (c : Int) ≤ 122 := by omega
   have e := k1.resolve_right (fun h => h h2.1)
   have e2 : IntKind.i64.wrap ((c : Int) - 97) = (c : Int) - 97 := IntWalk.i64_in _ (by omega)
   have e3 : IntKind.i64.wrap ((c : Int) - 97 + 10) = ((c - 97 + 10 : Nat) : Int) := by rw [IntWalk.i64_in _ (by omega)]; omega
   clear h1 h2 k0 k1 k2 hc
   go_enter Tryz.func217, Tryz.ntmps217
   go_wp2
   go_ret
   exact ⟨by first | rfl | (rw [e3]), rfl⟩
  ·rw [if_neg h2]
   by_cases h3 : 65 ≤ c ∧ c ≤ 90
   ·rw [if_pos h3]
    have a1 : (48 : Int) ≤ (c : Int) := by omega
    have a2 : ¬ (c : Int) ≤ 57 := by omega
    have a3 : ¬ (97 : Int) ≤ (c : Int) := by omega
    have a5 : (65 : Int) ≤ (c : Int) := by omega
    have a6 : (c : Int) ≤ 90 := by omega
    have e := k2.resolve_right (fun h => h h3.1)
    have e2 : IntKind.i64.wrap ((c : Int) - 65) = (c : Int) - 65 := IntWalk.i64_in _ (by omega)
    have e3 : IntKind.i64.wrap ((c : Int) - 65 + 10) = ((c - 65 + 10 : Nat) : Int) := by rw [IntWalk.i64_in _ (by omega)]; omega
    clear h1 h2 h3 k0 k1 k2 hc
    go_enter Tryz.func217, Tryz.ntmps217
    go_wp2
    go_ret
    exact ⟨by first | rfl | (rw [e3]), rfl⟩
   ·rw [if_neg h3]
    clear k0 k1 k2
    have hcc : ((48 : Int) ≤ (c : Int) ∧ ¬ (c : Int) ≤ 57) ∨ ¬ (48 : Int) ≤ (c : Int) := by omega
    have hcd : ((97 : Int) ≤ (c : Int) ∧ ¬ (c : Int) ≤ 122) ∨ ¬ (97 : Int) ≤ (c : Int) := by omega
    have hce : ((65 : Int) ≤ (c : Int) ∧ ¬ (c : Int) ≤ 90) ∨ ¬ (65 : Int) ≤ (c : Int) := by omega
    clear h1 h2 h3 hc
    rcases hcc with ⟨a1, a2⟩ | a1 <;> rcases hcd with ⟨a3, a4⟩ | a3 <;> rcases hce with ⟨a5, a6⟩ | a5
    all_goals
     go_enter Tryz.func217, Tryz.ntmps217
     go_wp2
     go_ret
     exact ⟨rfl, rfl⟩
def dgz (c : Nat) : Nat := if 48 ≤ c ∧ c ≤ 57 then c - 48 else if 97 ≤ c ∧ c ≤ 122 then c - 97 + 10 else if 65 ≤ c ∧ c ≤ 90 then c - 65 + 10 else 99
theorem Ahu {c r : Nat} (hr : r ≤ 36) : dgz c < r ↔ dgt c < r := by unfold dgz dgt; split <;> (try split) <;> (try split) <;> omega
theorem H7 {c r : Nat} (hr : r ≤ 36) (h : dgt c < r) : dgz c = dgt c := by unfold dgz; unfold dgt at h ⊢; split <;> (try split) <;> (try split) <;> simp_all <;> omega
theorem Cz (c : Nat) (w : World) (hc : c < 256) :
  Cq 108 #[.int .u8 c] (.int .i64 (dgz c : Nat)) w := by
 have k0 : IntKind.u8.wrap ((c : Int) - 48) = (c : Int) - 48 ∨ ¬ (48 ≤ c) := by
  by_cases h : 48 ≤ c
  ·exact .inl (by rw [IntKind.wrap_u8]; omega)
  ·exact .inr h
 have k1 : IntKind.u8.wrap ((c : Int) - 97) = (c : Int) - 97 ∨ ¬ (97 ≤ c) := by
  by_cases h : 97 ≤ c
  ·exact .inl (by rw [IntKind.wrap_u8]; omega)
  ·exact .inr h
 have k2 : IntKind.u8.wrap ((c : Int) - 65) = (c : Int) - 65 ∨ ¬ (65 ≤ c) := by
  by_cases h : 65 ≤ c
  ·exact .inl (by rw [IntKind.wrap_u8]; omega)
  ·exact .inr h
 unfold dgz
 by_cases h1 : 48 ≤ c ∧ c ≤ 57
 ·rw [if_pos h1]
  have a1 : (48 : Int) ≤ (c : Int) := by omega
  have a2 : (c : Int) ≤ 57 := by omega
  have e := k0.resolve_right (fun h => h h1.1)
  have e2 : IntKind.i64.wrap ((c : Int) - 48) = ((c - 48 : Nat) : Int) := by rw [IntWalk.i64_in _ (by omega)]; omega
  clear h1 k0 k1 k2 hc
  go_enter Tryz.func108, Tryz.ntmps108
  go_wp2
  go_ret
  exact ⟨by first | rfl | (rw [e2]), rfl⟩
 ·rw [if_neg h1]
  by_cases h2 : 97 ≤ c ∧ c ≤ 122
  ·rw [if_pos h2]
   have a1 : (48 : Int) ≤ (c : Int) := by omega
   have a2 : ¬ (c : Int) ≤ 57 := by omega
   have a3 : (97 : Int) ≤ (c : Int) := by omega
   have a4 : (c : Int) ≤ 122 := by omega
   have e := k1.resolve_right (fun h => h h2.1)
   have e2 : IntKind.i64.wrap ((c : Int) - 97) = (c : Int) - 97 := IntWalk.i64_in _ (by omega)
   have e3 : IntKind.i64.wrap ((c : Int) - 97 + 10) = ((c - 97 + 10 : Nat) : Int) := by rw [IntWalk.i64_in _ (by omega)]; omega
   clear h1 h2 k0 k1 k2 hc
   go_enter Tryz.func108, Tryz.ntmps108
   go_wp2
   go_ret
   exact ⟨by first | rfl | (rw [e3]), rfl⟩
  ·rw [if_neg h2]
   by_cases h3 : 65 ≤ c ∧ c ≤ 90
   ·rw [if_pos h3]
    have a1 : (48 : Int) ≤ (c : Int) := by omega
    have a2 : ¬ (c : Int) ≤ 57 := by omega
    have a3 : ¬ (97 : Int) ≤ (c : Int) := by omega
    have a5 : (65 : Int) ≤ (c : Int) := by omega
    have a6 : (c : Int) ≤ 90 := by omega
    have e := k2.resolve_right (fun h => h h3.1)
    have e2 : IntKind.i64.wrap ((c : Int) - 65) = (c : Int) - 65 := IntWalk.i64_in _ (by omega)
    have e3 : IntKind.i64.wrap ((c : Int) - 65 + 10) = ((c - 65 + 10 : Nat) : Int) := by rw [IntWalk.i64_in _ (by omega)]; omega
    clear h1 h2 h3 k0 k1 k2 hc
    go_enter Tryz.func108, Tryz.ntmps108
    go_wp2
    go_ret
    exact ⟨by first | rfl | (rw [e3]), rfl⟩
   ·rw [if_neg h3]
    clear k0 k1 k2
    have hcc : ((48 : Int) ≤ (c : Int) ∧ ¬ (c : Int) ≤ 57) ∨ ¬ (48 : Int) ≤ (c : Int) := by omega
    have hcd : ((97 : Int) ≤ (c : Int) ∧ ¬ (c : Int) ≤ 122) ∨ ¬ (97 : Int) ≤ (c : Int) := by omega
    have hce : ((65 : Int) ≤ (c : Int) ∧ ¬ (c : Int) ≤ 90) ∨ ¬ (65 : Int) ≤ (c : Int) := by omega
    clear h1 h2 h3 hc
    rcases hcc with ⟨a1, a2⟩ | a1 <;> rcases hcd with ⟨a3, a4⟩ | a3 <;> rcases hce with ⟨a5, a6⟩ | a5
    all_goals
     go_enter Tryz.func108, Tryz.ntmps108
     go_wp2
     go_ret
     exact ⟨rfl, rfl⟩
theorem Aes (r : Nat) (w : World) (h2 : 2 ≤ r) (h36 : r ≤ 36) :
  Cp 171 #[.int .i64 r] w fun e w' => (∃ c p : Nat, e = .returned (.tuple #[.int .i64 (c : Nat), .int .u32 (p : Nat)]) ∧ p = r ^ c ∧ 1 ≤ c ∧ c ≤ 32 ∧ p < 4294967296) ∧ w = w' := by
 have k0 : IntKind.u64.wrap (r : Int) = (r : Int) := IntWalk.u64_in _ (by omega)
 have H2 := Lh h2
 have H36 := Lh h36
 clear h2 h36
 go_enter Tryz.func171, Tryz.ntmps171
 go_wp2
 go_loopw [4, 5] (fun cv pw wr => ∃ c p : Nat, cv = .int .i64 (c : Nat) ∧ pw = .int .u64 (p : Nat) ∧ Hid (p = r ^ c) ∧ Hid (1 ≤ c) ∧ Hid (p < 4294967296) ∧ w = wr) (fun _ pw _ => 4294967296 - (intOf pw).toNat)
 case atStart => exact ⟨1, r, rfl, rfl, Lh (by rw [Nat.pow_one]), Lh (Nat.le_refl _), Lh (by have := H36.out; omega), rfl⟩
 case round =>
  obtain ⟨c, p, rfl, rfl, HP, HC, HL, rfl⟩ := hrel
  have hc32 : c < 32 := by
   have h1 : 2 ^ c ≤ r ^ c := Nat.pow_le_pow_left H2.out c
   have h3 := HL.out
   rw [HP.out] at h3
   exact (Nat.pow_lt_pow_iff_right (a := 2) (by omega)).1 (Nat.lt_of_le_of_lt h1 (show r ^ c < 2 ^ 32 from h3))
  obtain ⟨t, ht⟩ : ∃ t, p * r = t := ⟨_, rfl⟩
  have htl : t ≤ 4294967295 * 36 := by rw [← ht]; exact Nat.mul_le_mul (by have := HL.out; omega) H36.out
  have k1 : IntKind.u64.wrap ((p : Int) * (r : Int)) = (t : Int) := by
   have e : ((p : Int) * (r : Int)) = ((p * r : Nat) : Int) := (Int.natCast_mul p r).symm
   rw [e, ht]
   exact IntWalk.u64_in _ (by omega)
  have HT := Lh ht
  by_cases hle : t ≤ 4294967295
  ·have a1 : (t : Int) ≤ 4294967295 := by omega
   have HPN := Lh (show t = r ^ (c + 1) by rw [← HT.out, HP.out, Nat.pow_succ])
   have HTP := Lh (show p < t by
    have h1 : p * 2 ≤ p * r := Nat.mul_le_mul_left _ H2.out
    have h3 : 0 < r ^ c := Nat.pow_pos (by have := H2.out; omega)
    have h4 := HP.out
    have h5 := HT.out
    omega)
   have hcc : (c : Int) < 32 := by omega
   clear ht htl hle
   go_wp2
   go_roundw
   case rel => exact ⟨c + 1, t, by go_num, rfl, HPN, Lh (by omega), Lh (by omega), trivial⟩
   case measure => have := HTP.out; simp [intOf]; omega
  ·have a1 : ¬ (t : Int) ≤ 4294967295 := by omega
   have k2 : IntKind.u32.wrap (p : Int) = (p : Int) := IntWalk.u32_in _ (by have := HL.out; omega)
   clear ht htl hle
   go_wp2
   go_ret2
   exact ⟨⟨c, p, rfl, HP.out, HC.out, by omega, HL.out⟩, rfl⟩
def adB (r : Nat) (s : ByteArray) : Bool := decide (0 < s.size) && decide (∀ i, i < s.size → dgt (btn s i) < r)
theorem Aoi {r : Nat} {s : ByteArray} {i : Nat} (hi : i < s.size) (h : ¬ dgt (btn s i) < r) : adB r s = false := by
 unfold adB
 rw [decide_eq_false (p := ∀ i, i < s.size → dgt (btn s i) < r) (fun a => h (a i hi)), Bool.and_false]
theorem Add {r : Nat} {s : ByteArray} (h : ∀ i, i < s.size → dgt (btn s i) < r) : adB r s = decide (0 < s.size) := by
 unfold adB
 rw [decide_eq_true h, Bool.and_true]
theorem Rb (s : ByteArray) (r : Nat) (w : World) (hs : s.size ≤ 4611686018427387903) (h36 : r ≤ 36) :
  Cq 170 #[.string s, .int .i64 r] (.bool (adB r s)) w := by
 have hs1 : (s.size : Int) ≤ 4611686018427387903 := by omega
 have H36 := Lh h36
 clear hs h36
 go_enter Tryz.func170, Tryz.ntmps170
 go_wp2
 go_loopw [8] (fun iv wr => ∃ k : Nat, iv = .int .i64 (k : Nat) ∧ k ≤ s.size ∧ Hid (∀ i, i < k → dgt (btn s i) < r) ∧ w = wr) (fun iv _ => s.size - (intOf iv).toNat)
 case atStart => exact ⟨0, rfl, Nat.zero_le _, Lh (fun i hi => by omega), rfl⟩
 case round =>
  obtain ⟨k, rfl, hk, HD, rfl⟩ := hrel
  by_cases hlt : k < s.size
  ·have C1 := Lh (fun W => show Cp 217 #[.int .u8 ((s[k]'hlt).toNat : Nat)] W fun e w' => e = .returned (.int .i64 (dgt (btn s k) : Nat)) ∧ W = w' from by
    rw [D9 s k hlt]; exact Oi _ W (Fw s k))
   have hk1 : (k : Int) < (s.size : Int) := by omega
   have hd := Nz (btn s k)
   obtain ⟨d, hde⟩ : ∃ d, dgt (btn s k) = d := ⟨_, rfl⟩
   rw [hde] at C1 hd
   by_cases hdr : d < r
   ·have HD2 := Lh (show ∀ i, i < k + 1 → dgt (btn s i) < r from fun i hi => by
     by_cases e : i = k
     ·rw [e, hde]; exact hdr
     ·exact HD.out i (by omega))
    have a1 : ¬ (r : Int) ≤ (d : Int) := by omega
    clear hde hdr hd
    go_wp2_with fail
    refine Sm (C1.out _) ?_
    go_wp2
    go_roundw
    case rel => exact ⟨k + 1, by go_num, by omega, HD2, trivial⟩
    case measure => simp [intOf]; omega
   ·have HF := Lh (Aoi (r := r) hlt (by rw [hde]; exact hdr))
    have a1 : (r : Int) ≤ (d : Int) := by omega
    clear hde hdr hd
    go_wp2_with fail
    refine Sm (C1.out _) ?_
    go_wp2
    go_ret
    exact ⟨He HF.out.symm, rfl⟩
  ·have HF := Lh (Add (r := r) (s := s) (fun i hi => HD.out i (by omega)))
   have hks : k = s.size := by omega
   subst hks
   clear hlt
   go_wp2
   go_ret
   exact ⟨(He (by simp)).trans (He HF.out.symm), rfl⟩
theorem Afs (s : ByteArray) (r : Nat) (w : World) (h36 : r ≤ 36) (h2 : 2 ≤ r) (hp : r ^ s.size < 4294967296) (hd : ∀ i, i < s.size → dgt (btn s i) < r) :
  Cq 172 #[.string s, .int .i64 r] (.tuple #[.int .u32 (pv r (fun i => dgt (btn s i)) s.size : Nat), .int .u32 (r ^ s.size : Nat)]) w := by
 have hs32 : s.size < 32 := by
  have h1 : 2 ^ s.size ≤ r ^ s.size := Nat.pow_le_pow_left h2 _
  exact (Nat.pow_lt_pow_iff_right (a := 2) (by omega)).1 (Nat.lt_of_le_of_lt h1 (show r ^ s.size < 2 ^ 32 from hp))
 have hs1 : (s.size : Int) ≤ 32 := by omega
 have k0 : IntKind.u32.wrap (r : Int) = (r : Int) := IntWalk.u32_in _ (by omega)
 have H2 := Lh h2
 have HP := Lh hp
 have HD := Lh hd
 clear h36 h2 hp hd hs32
 go_enter Tryz.func172, Tryz.ntmps172
 go_wp2
 go_loopw [6, 7, 11] (fun vv pw iv wr => ∃ k : Nat, iv = .int .i64 (k : Nat) ∧ vv = .int .u32 (pv r (fun i => dgt (btn s i)) k : Nat) ∧ pw = .int .u32 (r ^ k : Nat) ∧ k ≤ s.size ∧ w = wr) (fun _ _ iv _ => s.size - (intOf iv).toNat)
 case atStart => exact ⟨0, rfl, rfl, rfl, Nat.zero_le _, rfl⟩
 case round =>
  obtain ⟨k, rfl, rfl, rfl, hk, rfl⟩ := hrel
  by_cases hlt : k < s.size
  ·have C1 := Lh (fun W => show Cp 217 #[.int .u8 ((s[k]'hlt).toNat : Nat)] W fun e w' => e = .returned (.int .i64 (dgt (btn s k) : Nat)) ∧ W = w' from by
    rw [D9 s k hlt]; exact Oi _ W (Fw s k))
   have hk1 : (k : Int) < (s.size : Int) := by omega
   have hle := Nz (btn s k)
   have hv1 : pv r (fun i => dgt (btn s i)) (k + 1) < r ^ (k + 1) := Adv (fun i hi => HD.out i (by omega))
   have hp1 : r ^ (k + 1) < 4294967296 := Nat.lt_of_le_of_lt (Nat.pow_le_pow_right (by have := H2.out; omega) hlt) HP.out
   have ev : pv r (fun i => dgt (btn s i)) (k + 1) = pv r (fun i => dgt (btn s i)) k * r + dgt (btn s k) := rfl
   have ep : r ^ (k + 1) = r ^ k * r := Nat.pow_succ _ _
   obtain ⟨d, hde⟩ : ∃ d, dgt (btn s k) = d := ⟨_, rfl⟩
   rw [hde] at C1 hle ev
   obtain ⟨V, hV⟩ : ∃ V, pv r (fun i => dgt (btn s i)) k = V := ⟨_, rfl⟩
   obtain ⟨V1, hV1⟩ : ∃ V1, pv r (fun i => dgt (btn s i)) (k + 1) = V1 := ⟨_, rfl⟩
   obtain ⟨P, hP⟩ : ∃ P, r ^ k = P := ⟨_, rfl⟩
   obtain ⟨P1, hP1⟩ : ∃ P1, r ^ (k + 1) = P1 := ⟨_, rfl⟩
   have HV1 := Lh hV1
   have HP1 := Lh hP1
   rw [hV, hV1] at ev
   rw [hP1, hP] at ep
   rw [hV1, hP1] at hv1
   rw [hP1] at hp1
   rw [hV, hP]
   obtain ⟨t, ht⟩ : ∃ t, V * r = t := ⟨_, rfl⟩
   rw [ht] at ev
   have k1 : IntKind.u32.wrap ((V : Int) * (r : Int)) = (t : Int) := by
    rw [show ((V : Int) * (r : Int)) = ((V * r : Nat) : Int) from (Int.natCast_mul V r).symm, ht]; exact IntWalk.u32_in _ (by omega)
   have k2 : IntKind.u32.wrap (d : Int) = (d : Int) := IntWalk.u32_in _ (by omega)
   have k3 : IntKind.u32.wrap ((t : Int) + (d : Int)) = (V1 : Int) := by rw [IntWalk.u32_in _ (by omega)]; omega
   have k4 : IntKind.u32.wrap ((P : Int) * (r : Int)) = (P1 : Int) := by
    rw [show ((P : Int) * (r : Int)) = ((P * r : Nat) : Int) from (Int.natCast_mul P r).symm, ← ep]; exact IntWalk.u32_in _ (by omega)
   clear hle hv1 hp1 ev ep hde hV hV1 hP hP1 ht
   go_wp2_with fail
   refine Sm (C1.out _) ?_
   go_wp2
   go_roundw
   case rel => exact ⟨k + 1, by go_num, by rw [HV1.out], by rw [HP1.out], by omega, trivial⟩
   case measure => simp [intOf]; omega
  ·have hks : k = s.size := by omega
   rw [hks]
   clear hlt hk hks
   go_wp2
   go_ret2
   exact ⟨rfl, rfl⟩
theorem Yn (x : Int) (w : World) : Cq 265 #[.int .i64 x] (.bool false) w := by
 go_enter Tryz.func265, Tryz.ntmps265
 go_wp2
 go_ret
 exact ⟨rfl, rfl⟩
theorem Yd (x : Int) (w : World) : Cq 266 #[.int .u32 x] (.bool false) w := by
 go_enter Tryz.func266, Tryz.ntmps266
 go_wp2
 go_ret
 exact ⟨rfl, rfl⟩
def sgn (a b : Int) : Int := if a < b then -1 else if b < a then 1 else 0
theorem Y6 (x y : Int) (w : World) : Cq 252 #[.int .i64 x, .int .i64 y] (.int .i64 (sgn x y)) w := by
 go_enter Tryz.func252, Tryz.ntmps252
 go_wp2_with (first | (go_at_call 265; refine (Yn _ _).mono ?_; rintro e w' ⟨rfl, rfl⟩))
 all_goals go_ret
 all_goals exact ⟨Fh (by unfold sgn; split <;> (try split) <;> omega), rfl⟩
theorem Vx (x y : Int) (w : World) : Cq 253 #[.int .u32 x, .int .u32 y] (.int .i64 (sgn x y)) w := by
 go_enter Tryz.func253, Tryz.ntmps253
 go_wp2_with (first | (go_at_call 266; refine (Yd _ _).mono ?_; rintro e w' ⟨rfl, rfl⟩))
 all_goals go_ret
 all_goals exact ⟨Fh (by unfold sgn; split <;> (try split) <;> omega), rfl⟩
theorem Zz {P : Program} {f : FuncId} {args : Array Value} {w : World} {a n : Nat} {v : Value}
  (h : Calls P f args (w.drewN (a + n)) fun e w' => e = .returned v ∧ w.drewN (a + n) = w') : Calls P f args (w.drewN (a + n)) fun e w'' => e = .returned v ∧ ∃ m, w'' = w.drewN (a + m) :=
 h.mono fun _ _ ⟨he, hm⟩ => ⟨he, n, hm.symm⟩
theorem Apt (w : World) (a b c : Nat) : ((w.drewN a).drewN b).drewN c = w.drewN (a + b + c) := by rw [World.drewN_drewN, World.drewN_drewN, Nat.add_assoc]
def ord (l m : List Nat) : Int := sgn (val l) (val m)
theorem Jw {l m : List Nat} (h : val l < val m) : ord l m = -1 := by unfold ord sgn; rw [if_pos (by omega)]
theorem Jo {l m : List Nat} (h : val m < val l) : ord l m = 1 := by unfold ord sgn; rw [if_neg (by omega), if_pos (by omega)]
theorem Lj {l m : List Nat} (h : val l = val m) : ord l m = 0 := by unfold ord sgn; rw [if_neg (by omega), if_neg (by omega)]
theorem An9 {l m : List Nat} (hl : Ws l) (hm : Ws m) (i : Nat) (h : ∀ j, i < j → l.getD j 0 = m.getD j 0) (hne : l.getD i 0 ≠ m.getD i 0) : ord l m = sgn (l.getD i 0 : Nat) (m.getD i 0 : Nat) := by
 rcases Nat.lt_or_gt_of_ne hne with h1 | h1
 ·rw [Jw (O7 i l m hl hm h h1)]; unfold sgn; rw [if_pos (by omega)]
 ·rw [Jo (O7 i m l hm hl (fun j hj => (h j hj).symm) h1)]; unfold sgn; rw [if_neg (by omega), if_pos (by omega)]
theorem Amh (l m : List Nat) : ord (nrm l) (nrm m) = ord l m := by unfold ord; rw [Aq, Aq]
theorem Amx {l m : List Nat} (hl : Ws l) (hm : Ws m) (h : (nrm l).length ≠ (nrm m).length) : ord l m = sgn ((nrm l).length : Nat) ((nrm m).length : Nat) := by
 rcases Nat.lt_or_gt_of_ne h with h1 | h1
 ·rw [Jw (No hl h1)]; unfold sgn; rw [if_pos (by omega)]
 ·rw [Jo (No hm h1)]; unfold sgn; rw [if_neg (by omega), if_pos (by omega)]
theorem Ac6 (A C : Option Addr) (n c m d : Nat) (l k : List Nat) (B D : Nat) (w : World) (hn : l.length = n) (hc : n ≤ c) (hm : n ≤ 35184372088832) (h : RW w B A l)
  (gn : k.length = m) (gc : m ≤ d) (gm : m ≤ 35184372088832) (g : RW w D C k) :
  Cp 233 #[.slice A n c, .slice C m d] w fun e w' => e = .returned (.int .i64 (ord l k)) ∧ ∃ j, w' = w.drewN j := by
 have c1 := As A n c l B w hn hc hm h
 have c2 := As C m d k D w gn gc gm g
 have hle := Ba l
 have gle := Ba k
 by_cases hlen : (nrm l).length = (nrm k).length
 ·obtain ⟨N, hN⟩ : ∃ N, (nrm l).length = N := ⟨_, rfl⟩
  rw [← hlen, hN] at c2
  rw [hN] at c1
  have hN1 : (N : Int) ≤ 35184372088832 := by omega
  have HL := Lh hN
  have HK := Lh (hlen ▸ hN : (nrm k).length = N)
  have HR := Lh h.nrm
  have GR := Lh g.nrm
  rw [← Amh]
  clear hn hc hm h gn gc gm g hle gle hlen hN
  go_enter Tryz.func233, Tryz.ntmps233
  go_wp2_with fail
  refine c1.mono ?_
  rintro e w' ⟨rfl, rfl⟩
  go_wp2_with fail
  refine c2.mono ?_
  rintro e w' ⟨rfl, rfl⟩
  go_wp2
  go_loopw [5] (fun i wr => ∃ q : Nat, i = .int .i64 ((q : Int) - 1) ∧ q ≤ N ∧ Hid (∀ j, q ≤ j → (nrm l).getD j 0 = (nrm k).getD j 0) ∧ ∃ j, wr = w.drewN j) (fun i _ => (intOf i + 1).toNat)
  case atStart => exact ⟨N, rfl, Nat.le_refl _, Lh (fun j hj => by rw [F7 (by rw [HL.out]; exact hj), F7 (by rw [HK.out]; exact hj)]), 0, rfl⟩
  case round =>
   obtain ⟨q, rfl, hq, HQ, j, rfl⟩ := hrel
   by_cases h0 : q = 0
   ·have HE := Lh (show ord (nrm l) (nrm k) = 0 from Lj (K9 (fun j => HQ.out j (by omega))))
    subst h0
    go_wp2
    go_ret
    exact ⟨Fh (by rw [HE.out]), _, rfl⟩
   ·obtain ⟨i, rfl⟩ : ∃ i, q = i + 1 := ⟨q - 1, by omega⟩
    obtain ⟨a, o, rfl, _, ha⟩ := HR.out.2 (by rw [HL.out]; omega)
    obtain ⟨b, p, rfl, _, hb⟩ := GR.out.2 (by rw [HK.out]; omega)
    have d1 := ha i _ (getD_some (by rw [HL.out]; omega))
    have d2 := hb i _ (getD_some (by rw [HK.out]; omega))
    by_cases hne : (nrm l).getD i 0 = (nrm k).getD i 0
    ·obtain ⟨u, hu⟩ : ∃ u, (nrm l).getD i 0 = u := ⟨_, rfl⟩
     rw [← hne] at d2
     rw [hu] at d1 d2
     have HQ2 := Lh (show ∀ j, i ≤ j → (nrm l).getD j 0 = (nrm k).getD j 0 from fun j hj => by
      by_cases e : j = i
      ·rw [e]; exact hne
      ·exact HQ.out j (by omega))
     have b1 : (0 : Int) ≤ (i : Int) := by omega
     have b2 : (i : Int) < (N : Int) := by omega
     clear hu hne ha hb HR GR
     go_wp2
     go_quiet (fail)
     go_wp2
     go_roundw
     case rel => exact ⟨i, by go_num, by omega, HQ2, _, rfl⟩
     case measure => simp [intOf]
    ·have HE := Lh (An9 HR.out.1 GR.out.1 i (fun j hj => HQ.out j (by omega)) hne)
     obtain ⟨u, hu⟩ : ∃ u, (nrm l).getD i 0 = u := ⟨_, rfl⟩
     obtain ⟨v, hv⟩ : ∃ v, (nrm k).getD i 0 = v := ⟨_, rfl⟩
     rw [hu, hv] at HE
     rw [hu] at d1 hne
     rw [hv] at d2 hne
     have b1 : (0 : Int) ≤ (i : Int) := by omega
     have b2 : (i : Int) < (N : Int) := by omega
     have b3 : ((u : Int) == (v : Int)) = false := by simp; omega
     have HNE := Lh hne
     clear hu hv ha hb HR GR hne
     go_wp2
     go_quiet (fail)
     go_wp2
     go_quiet ((go_at_call 253; exact Zz (Vx _ _ _)))
     go_wp2
     go_ret
     exact ⟨Fh (by rw [HE.out]), _, Apt _ _ _ _⟩
 ·have HE := Lh (Amx h.1 g.1 hlen)
  obtain ⟨N, hN⟩ : ∃ N, (nrm l).length = N := ⟨_, rfl⟩
  obtain ⟨M, hM⟩ : ∃ M, (nrm k).length = M := ⟨_, rfl⟩
  rw [hN] at c1 hlen
  rw [hM] at c2 hlen
  rw [hN, hM] at HE
  have hne : ¬ (N : Int) = (M : Int) := by omega
  clear hn hc hm h gn gc gm g hle gle hlen hN hM
  go_enter Tryz.func233, Tryz.ntmps233
  go_wp2_with fail
  refine c1.mono ?_
  rintro e w' ⟨rfl, rfl⟩
  go_wp2_with fail
  refine c2.mono ?_
  rintro e w' ⟨rfl, rfl⟩
  go_wp2_with (go_at_call 252; refine (Y6 _ _ _).mono ?_; rintro e w' ⟨rfl, rfl⟩)
  go_ret
  exact ⟨Fh (by rw [HE.out]), 0, rfl⟩
theorem Zi (A C : Option Addr) (n c m d : Nat) (l k : List Nat) (B D : Nat) (w : World) (hn : l.length = n) (hm : n ≤ 35184372088832) (h : RW w B A l)
  (gn : k.length = m) (gm : m ≤ 35184372088832) (g : RW w D C k) :
  Cq 156 #[.slice A n c, .slice C m d] (.int .i64 (ord l k)) w := by
 have c1 := fun i => Ap A n c i l B w hn hm h
 have c2 := fun i => Ap C m d i k D w gn gm g
 have body : ∀ N : Nat, (n : Int) ≤ N → (m : Int) ≤ N → (N : Int) ≤ 35184372088832 → (((n : Int) < (m : Int) ∧ N = m) ∨ (¬ (n : Int) < (m : Int) ∧ N = n)) →
   Cq 156 #[.slice A n c, .slice C m d] (.int .i64 (ord l k)) w := by
  intro N h1 h2 h3 h4
  have HS := Lh (show ∀ j, N ≤ j → l.getD j 0 = k.getD j 0 from fun j hj => by rw [F7 (by omega), F7 (by omega)])
  have HL := Lh h.1
  have HK := Lh g.1
  have C1 := Lh c1
  have C2 := Lh c2
  clear hn hm h gn gm g c1 c2 h1 h2
  rcases h4 with ⟨h4, rfl⟩ | ⟨h4, rfl⟩
  all_goals
   go_enter Tryz.func156, Tryz.ntmps156
   go_wp2
   go_loop [6] (fun i => ∃ q : Nat, i = .int .i64 ((q : Int) - 1) ∧ (q : Int) ≤ 35184372088832 ∧ Hid (∀ j, q ≤ j → l.getD j 0 = k.getD j 0)) (fun i => (intOf i + 1).toNat)
   case atStart => exact ⟨_, rfl, h3, HS⟩
   case round =>
    obtain ⟨q, rfl, hq, HQ⟩ := hrel
    by_cases h0 : q = 0
    ·have HE := Lh (show ord l k = 0 from Lj (K9 (fun j => HQ.out j (by omega))))
     subst h0
     go_wp2
     go_ret
     exact ⟨Fh (by rw [HE.out]), rfl⟩
    ·obtain ⟨i, rfl⟩ : ∃ i, q = i + 1 := ⟨q - 1, by omega⟩
     have d1 := C1.out i
     have d2 := C2.out i
     by_cases hne : l.getD i 0 = k.getD i 0
     ·obtain ⟨u, hu⟩ : ∃ u, l.getD i 0 = u := ⟨_, rfl⟩
      rw [← hne] at d2
      rw [hu] at d1 d2
      have HQ2 := Lh (show ∀ j, i ≤ j → l.getD j 0 = k.getD j 0 from fun j hj => by
       by_cases e : j = i
       ·rw [e]; exact hne
       ·exact HQ.out j (by omega))
      clear hu hne
      go_wp2_with fail
      refine d1.mono ?_
      rintro e w' ⟨rfl, rfl⟩
      go_wp2_with fail
      refine d2.mono ?_
      rintro e w' ⟨rfl, rfl⟩
      go_wp2_with fail
      refine d1.mono ?_
      rintro e w' ⟨rfl, rfl⟩
      go_wp2_with fail
      refine d2.mono ?_
      rintro e w' ⟨rfl, rfl⟩
      go_wp2
      go_round
      case rel => exact ⟨i, by go_num, by omega, HQ2⟩
      case measure => simp [intOf]
     ·rcases Nat.lt_or_gt_of_ne hne with hlt | hlt
      ·have HE := Lh (Jw (O7 i l k HL.out HK.out (fun j hj => HQ.out j (by omega)) hlt))
       obtain ⟨u, hu⟩ : ∃ u, l.getD i 0 = u := ⟨_, rfl⟩
       obtain ⟨v, hv⟩ : ∃ v, k.getD i 0 = v := ⟨_, rfl⟩
       rw [hu] at d1 hlt
       rw [hv] at d2 hlt
       have hl1 : (u : Int) < (v : Int) := by omega
       clear hu hv hne hlt
       go_wp2_with fail
       refine d1.mono ?_
       rintro e w' ⟨rfl, rfl⟩
       go_wp2_with fail
       refine d2.mono ?_
       rintro e w' ⟨rfl, rfl⟩
       go_wp2
       go_ret
       exact ⟨Fh (by rw [HE.out]), rfl⟩
      ·have HE := Lh (Jo (O7 i k l HK.out HL.out (fun j hj => (HQ.out j (by omega)).symm) hlt))
       obtain ⟨u, hu⟩ : ∃ u, l.getD i 0 = u := ⟨_, rfl⟩
       obtain ⟨v, hv⟩ : ∃ v, k.getD i 0 = v := ⟨_, rfl⟩
       rw [hu] at d1 hlt
       rw [hv] at d2 hlt
       have HL1 := Lh (show (v : Int) < (u : Int) by omega)
       have hl2 : decide (u < v) = false := by simp; omega
       clear hu hv hne hlt
       go_wp2_with fail
       refine d1.mono ?_
       rintro e w' ⟨rfl, rfl⟩
       go_wp2_with fail
       refine d2.mono ?_
       rintro e w' ⟨rfl, rfl⟩
       go_wp2_with fail
       have hl1 := HL1.out
       clear hl2
       refine d1.mono ?_
       rintro e w' ⟨rfl, rfl⟩
       go_wp2_with fail
       refine d2.mono ?_
       rintro e w' ⟨rfl, rfl⟩
       go_wp2
       go_ret
       exact ⟨Fh (by rw [HE.out]), rfl⟩
 rcases Nat.lt_or_ge n m with h4 | h4
 ·exact body m (by omega) (by omega) (by omega) (.inl ⟨by omega, rfl⟩)
 ·exact body n (by omega) (by omega) (by omega) (.inr ⟨by omega, rfl⟩)
structure MulU (a b : List Nat) (i : Nat) (P : List Nat) : Prop where
 len : P.length = a.length + b.length + 1
 ws : Ws P
 zeros : ∀ j, i + b.length ≤ j → P.getD j 0 = 0
 sum : val (P.take (i + b.length)) = val (a.take i) * val b
theorem MulU.start (a b : List Nat) : MulU a b 0 (List.replicate (a.length + b.length + 1) 0) :=
 ⟨List.length_replicate, Ws.zeros _, fun j _ => Pp _ j, by rw [List.take_replicate, Ha]; simp [val]⟩
theorem MulU.next {a b : List Nat} {i : Nat} {P S : List Nat} {q : Nat} (h : MulU a b i P) (hi : i < a.length) (hS : AddT P i b (a.getD i 0) b.length S q) : MulU a b (i + 1) (S.set (i + b.length) q) := by
 obtain ⟨h1, h2, h3, h4⟩ := h
 obtain ⟨g1, g2, g3, g4, g5⟩ := hS
 refine ⟨by rw [List.length_set]; omega, g2.set g5, fun j hj => ?_, ?_⟩
 ·rw [Ao (by omega), g3 j (by omega), h3 j (by omega)]
 ·have hb : b.take b.length = b := List.take_of_length_le (Nat.le_refl _)
  rw [hb] at g4
  have e1 : (S.set (i + b.length) q).take (i + 1 + b.length) = (S.set (i + b.length) q).take (i + b.length + 1) := by congr 1; omega
  rw [e1, Br _ _ (by rw [List.length_set]; omega), Bb (by omega), Br a i hi]
  rw [Cn (l := S.set (i + b.length) q) (m := S) (i + b.length) (by rw [List.length_set]; omega) (by omega) (fun j hj => Ao (by omega))]
  rw [Gg S i b.length (by omega)]
  rw [Cn (l := S) (m := P) i (by omega) (by omega) (fun j hj => g3 j (by omega))]
  rw [Gg P i b.length (by omega)] at h4
  rw [Nat.pow_add]
  have e2 : val (P.take i) + 4294967296 ^ i * val ((S.drop i).take b.length) + 4294967296 ^ i * 4294967296 ^ b.length * q = val (P.take i) + 4294967296 ^ i * (val ((S.drop i).take b.length) + 4294967296 ^ b.length * q) := by grind
  rw [e2, g4]
  grind
theorem MulU.whole {a b : List Nat} {P : List Nat} (h : MulU a b a.length P) : val P = val a * val b := by
 rw [Ps P (a.length + b.length) (fun j hj => h.zeros j hj), h.sum, List.take_of_length_le (Nat.le_refl _)]
theorem Ry (A C : Option Addr) (n c m d : Nat) (l k : List Nat) (w : World) (hn : l.length = n) (hm : n ≤ 4096) (h : RW w w.heap.size A l)
  (gn : k.length = m) (gm : m ≤ 4096) (g : RW w w.heap.size C k) :
  Cp 138 #[.slice A n c, .slice C m d] w (SlPost (wds (val l * val k)) w) := by
 have hmk := run_make_row' (P := Tryz.prog) 121 129 (.int .u32 0) 4 Tryz.underlying121 Ef rfl .i64 .i64 (n + m + 1) (by omega) (by omega) w
 rw [show ((n + m + 1 : Nat) : Int) = (n : Int) + (m : Int) + 1 by omega] at hmk
 have HROW := Lh (Row.made w (n + m + 1))
 have hn1 : (n : Int) ≤ 4096 := by omega
 have hm1 : (m : Int) ≤ 4096 := by omega
 have HN := Lh hn
 have HM := Lh gn
 have HA := Lh h
 have HB := Lh g
 have HBL := Lh (show Below w.heap.size w (w.alloc (.cells (madeCells #[.int .u32 0] (n + m + 1)) 129)) from (Below.refl _ _).alloc (Nat.le_refl _) _)
 clear h g hn hm gn gm
 go_enter Tryz.func138, Tryz.ntmps138
 go_wp2
 clear hmk
 go_loopw [6] (fun i wr => ∃ (q : Nat) (P : List Nat), i = .int .i64 q ∧ q ≤ n ∧ Hid (Row wr w.heap.size P) ∧ Hid (MulU l k q P) ∧ Below w.heap.size w wr) (fun i _ => n - (intOf i).toNat)
 case atStart => exact ⟨0, _, rfl, Nat.zero_le _, HROW, Lh (by have := MulU.start l k; rw [HN.out, HM.out] at this; exact this), HBL.out⟩
 case round =>
  obtain ⟨q, P, rfl, hq, HR, HT, hbw⟩ := hrel
  by_cases hlt : q < n
  ·have hql : q < l.length := by rw [HN.out]; exact hlt
   obtain ⟨ab, ao, rfl, hab, hca⟩ := HA.out.2 (by omega)
   have hx := HA.out.1.getD q
   have hca2 := hca q _ (getD_some hql)
   obtain ⟨x, hxe⟩ : ∃ x, l.getD q 0 = x := ⟨_, rfl⟩
   rw [hxe] at hca2 hx
   have HCA := Lh (fun (W : World) (hB : Below w.heap.size w W) => show W.cell? ⟨ab, ao + q, none⟩ = some (.int .u32 (x : Int)) from by rw [hB.cell (p := ⟨ab, ao + q, none⟩) hab]; exact hca2)
   have HX := Lh hx
   have hPl : P.length = n + m + 1 := by rw [HT.out.len, HN.out, HM.out]
   have HPL := Lh hPl
   have HNX := Lh (fun S r (h : AddT P q k x k.length S r) => HT.out.next hql (by rw [hxe]; exact h))
   have hq1 : (q : Int) < (n : Int) := by omega
   have hq0 : (0 : Int) ≤ (q : Int) := by omega
   have HST := Lh (AddT.start q k x HT.out.ws)
   obtain ⟨wo, rfl⟩ : ∃ wo : World, wo = wr := ⟨_, rfl⟩
   clear hql hab hca hx hca2 hxe hPl
   go_wp2
   go_loopw [7, 8] (fun cv kv wi => ∃ (r j : Nat) (S : List Nat), cv = .int .u64 (r : Nat) ∧ kv = .int .i64 j ∧ j ≤ m ∧ Hid (Row wi w.heap.size S) ∧ Hid (AddT P q k x j S r) ∧ Below w.heap.size w wi) (fun _ kv _ => m - (intOf kv).toNat)
   case atStart => exact ⟨0, 0, P, rfl, rfl, Nat.zero_le _, HR, HST, hbw⟩
   case round =>
    obtain ⟨r, j, S, rfl, rfl, hj, HS, HAd, hbi⟩ := hrel
    by_cases hjm : j < m
    ·have hjl : j < k.length := by rw [HM.out]; exact hjm
     obtain ⟨bb, bo, rfl, hbb, hcb⟩ := HB.out.2 (by omega)
     have hcb2 := hcb j _ (getD_some hjl)
     rw [← hbi.cell (p := ⟨bb, bo + j, none⟩) hbb] at hcb2
     have hca2 := HCA.out wr hbi
     have hok : q + j < P.length := by rw [HPL.out]; omega
     obtain ⟨e1, hnext⟩ := HAd.out.next HT.out.ws HB.out.1 HX.out hjl hok
     have hS := HS.out.cell (q + j) (by rw [HAd.out.len]; exact hok)
     have hfz := HS.out.frozen (q + j)
     obtain ⟨l1, l2, l3⟩ := Nh (o := q) (k := j) (q := r) HT.out.ws HB.out.1 HX.out HAd.out.low
     have hset := HS.out.set (q + j) (Jm P q k x j r % 4294967296)
     have HE := Lh (show Jm P q k x j r = r + (k.getD j 0 * x + P.getD (q + j) 0) from rfl)
     have u1 := HB.out.1.getD j
     have r1 := HT.out.ws.getD (q + j)
     have q1 := HAd.out.low
     rw [e1] at hS
     obtain ⟨t, ht⟩ : ∃ t, Jm P q k x j r = t := ⟨_, rfl⟩
     obtain ⟨u, hu⟩ : ∃ u, k.getD j 0 = u := ⟨_, rfl⟩
     obtain ⟨p, hp⟩ : ∃ p, P.getD (q + j) 0 = p := ⟨_, rfl⟩
     rw [ht, hu, hp] at HE
     rw [ht] at hnext hset l3
     rw [hu] at hcb2 l1 l2 u1
     rw [hp] at hS l2 r1
     have HNXT := Lh hnext
     have hmul : ((u * x : Nat) : Int) = (x : Int) * (u : Int) := by rw [Nat.mul_comm]; exact Int.natCast_mul x u
     have k1 : IntKind.u64.wrap (u : Int) = (u : Int) := IntWalk.u64_in _ (by omega)
     have k2 : IntKind.u64.wrap (x : Int) = (x : Int) := IntWalk.u64_in _ (by have := HX.out; omega)
     have k3 : IntKind.u64.wrap (p : Int) = (p : Int) := IntWalk.u64_in _ (by omega)
     have k4 : IntKind.u64.wrap ((x : Int) * (u : Int)) = (x : Int) * (u : Int) := IntWalk.u64_in _ (by omega)
     have k5 : IntKind.u64.wrap ((x : Int) * (u : Int) + (p : Int)) = (x : Int) * (u : Int) + (p : Int) := IntWalk.u64_in _ (by omega)
     have k6 : IntKind.u64.wrap ((x : Int) * (u : Int) + (p : Int) + (r : Int)) = (t : Int) := by
      have := HE.out
      rw [IntWalk.u64_in _ (by omega)]
      omega
     have k7 : IntKind.i64.wrap ((q : Int) + (j : Int)) = (q : Int) + (j : Int) := IntWalk.i64_in _ (by omega)
     have k8 : ((q : Int) + (j : Int)).toNat = q + j := by omega
     have k9 : (0 : Int) ≤ (q : Int) + (j : Int) := by omega
     have k10 : (q : Int) + (j : Int) < (n : Int) + (m : Int) + 1 := by omega
     have j0 : (0 : Int) ≤ (j : Int) := by omega
     have j1 : (j : Int) < (m : Int) := by omega
     rw [show ((t % 4294967296 : Nat) : Int) = (t : Int) % 4294967296 by omega] at hset
     have HSET := Lh hset
     clear hset e1 hnext l1 l2 l3 u1 r1 q1 ht hu hp hjl hok hbb hcb hmul
     go_wp2
     go_quiet (fail)
     go_wp2
     go_roundw
     case rel => exact ⟨t / 4294967296, j + 1, _, by go_num, by go_num, by omega, Lh (show Row _ _ _ from HSET.out), HNXT, by first | exact Ae (hbi.setCell (Nat.le_refl _) _) _ | exact (Ae hbi _).setCell (Nat.le_refl _) _⟩
     case measure => simp [intOf]; omega
    ·have hjm2 : j = m := by omega
     have HAd2 := Lh (show AddT P q k x k.length S r by rw [HM.out, ← hjm2]; exact HAd.out)
     have hSl : S.length = n + m + 1 := by rw [HAd.out.len]; exact HPL.out
     have hr1 := HAd.out.low
     have k1 : IntKind.u32.wrap (r : Int) = (r : Int) := IntWalk.u32_in _ (by omega)
     have hS := HS.out.cell (q + m) (by omega)
     have hfz := HS.out.frozen (q + m)
     have HSET := Lh (HS.out.set (q + m) r)
     have HMT := Lh (show MulU l k (q + 1) (S.set (q + m) r) by have := HNX.out S r HAd2.out; rw [HM.out] at this; exact this)
     have j1 : ¬ (j : Int) < (m : Int) := by omega
     have j2 : (q : Int) + (m : Int) < (n : Int) + (m : Int) + 1 := by omega
     clear hjm2 hSl hr1
     go_wp2
     go_roundw
     case rel => exact ⟨q + 1, _, by go_num, by omega, HSET, HMT, hbi.setCell (Nat.le_refl _) _⟩
     case measure => simp [intOf]; omega
  ·have hqn : q = n := by omega
   have HMT := Lh (show MulU l k l.length P by rw [HN.out, ← hqn]; exact HT.out)
   have hPl : P.length = n + m + 1 := by rw [HT.out.len, HN.out, HM.out]
   have hlt2 := HR.out.lt
   have C1 := Lh (Bo (some ⟨w.heap.size, 0, none⟩) (n + m + 1) (n + m + 1) P wr.heap.size wr hPl (Nat.le_refl _) (by omega) ((HR.out.rw0 HT.out.ws).more hlt2))
   have HV := Lh (show nrm P = wds (val l * val k) by rw [Bh HT.out.ws, HMT.out.whole])
   have hq1 : ¬ (q : Int) < (n : Int) := by omega
   clear hPl hqn hlt2
   go_wp2_with fail
   refine C1.out.mono ?_
   rintro e w3 ⟨v3, rfl, ho3, hb3⟩
   rw [HV.out] at ho3
   have HO3 := Lh (ho3.sl (Ax _))
   clear ho3 C1
   go_wp2
   go_ret
   exact ⟨_, rfl, HO3.out, Aa hbw hb3⟩
theorem Amm (x y P Q : Nat) (hxy : x * P % 4294967296 < 4294967296) (hq : y / Q < 4294967296) : bits BinOp.or IntKind.u32 ((x : Int) * (P : Nat) % 4294967296) ((y : Int) / (Q : Nat)) = ((x * P % 4294967296 ||| y / Q : Nat) : Int) := by
 rw [← Ss _ _ hxy hq]; rfl
theorem Aok (x y s : Nat) (hs : s < 32) (hy : y < 4294967296) : bits BinOp.or IntKind.u32 ((x : Int) * 2 ^ s % 4294967296) ((y : Int) / 2 ^ (32 - s)) = ((x * 2 ^ s % 4294967296 + y / 2 ^ (32 - s) : Nat) : Int) := by
 rw [← Ala x y s (by omega) hy, ← Amm x y _ _ (Nat.mod_lt _ (by omega)) (Nat.lt_of_le_of_lt (Nat.div_le_self _ _) hy), Int.natCast_pow, Int.natCast_pow]
 rfl
theorem or_zero (x s : Nat) : bits BinOp.or IntKind.u32 ((x : Int) * 2 ^ s % 4294967296) 0 = ((x * 2 ^ s % 4294967296 + 0 : Nat) : Int) := by
 have h : x * 2 ^ s % 4294967296 < 4294967296 := Nat.mod_lt _ (by omega)
 have e : ((x : Int) * 2 ^ s % 4294967296) = ((x * 2 ^ s % 4294967296 : Nat) : Int) := by rw [Int.natCast_emod, Int.natCast_mul, Int.natCast_pow]; rfl
 rw [e, show (0 : Int) = ((0 : Nat) : Int) from rfl, Ss _ _ h (by omega), Nat.or_zero, Nat.add_zero]
theorem U4 (g o n c s : Nat) (R : List Nat) (A : Option Addr) (m d : Nat) (b : List Nat) (B : Nat) (w : World) (hR : Row w g R) (hRw : Ws R) (ho : o + n ≤ R.length) (hbl : b.length = m) (hm : m ≤ 4096) (hn : n ≤ 4096)
  (hB : RW w B A b) (hgB : B ≤ g) (hs : s < 32) :
  Cp 232 #[.slice (some ⟨g, o, none⟩) n c, .slice A m d, .int .i64 s] w (fun e w' => e = .returned (.tuple #[]) ∧ ∃ S, ShlP R o b s n S ∧ Row w' g S ∧ Below g w w') := by
 have hn1 : (n : Int) ≤ 4096 := by omega
 have hs1 : (s : Int) < 32 := by omega
 have hs0 : (0 : Int) ≤ (s : Int) := by omega
 have hB2 := Lh hB
 have HR := Lh hR
 have HSTART := Lh (ShlP.start o b s hRw)
 clear hR
 go_enter Tryz.func232, Tryz.ntmps232
 go_wp2
 go_loopw [9] (fun i wr => ∃ (k : Nat) (S : List Nat), i = .int .i64 k ∧ k ≤ n ∧ Hid (Row wr g S) ∧ Hid (ShlP R o b s k S) ∧ Below g w wr) (fun i _ => n - (intOf i).toNat)
 case atStart => exact ⟨0, R, rfl, Nat.zero_le _, HR, HSTART, Below.refl _ _⟩
 case round =>
  obtain ⟨k, S, rfl, hk, HRS, HS, hbw⟩ := hrel
  by_cases hlt : k < n
  ·have hS := HRS.out.cell (o + k) (by have := HS.out.len; omega)
   have hfz := HRS.out.frozen (o + k)
   have HNX := Lh (HS.out.next hB2.out.1 (by omega) (by have := HS.out.len; omega))
   have HROW := Lh (HRS.out.set (o + k) (Jv b s k))
   have C1 := Lh (fun W (hW : Below g w W) => Dz A m d k b B W hbl (by omega) (hB2.out.below (hW.mono hgB)))
   have hbd := Ae hbw 1
   have HBS := Lh (show Below g w (wr.setCell ⟨g, o + k, none⟩ (.int .u32 (Jv b s k : Nat))) from hbw.setCell (Nat.le_refl _) _)
   obtain ⟨x, hx⟩ : ∃ x, b.getD k 0 = x := ⟨_, rfl⟩
   rw [hx] at C1
   have hkk : (k : Int) < (n : Int) := by omega
   have e2 : IntKind.i64.wrap (32 - (s : Int)) = 32 - (s : Int) := IntWalk.i64_in _ (by omega)
   have e3 : (0 : Int) ≤ 32 - (s : Int) := by omega
   rcases Nat.eq_zero_or_pos k with hk0 | hk0
   ·subst hk0
    have C2 := Lh (fun W => Ah9 A m d W)
    have HW := Lh (show ((Jv b s 0 : Nat) : Int) = bits BinOp.or IntKind.u32 ((x : Int) * 2 ^ s % 4294967296) 0 by
     rw [or_zero]; unfold Jv E5; rw [hx, if_pos rfl])
    have e1 : IntKind.i64.wrap (-1) = -1 := rfl
    rw [show ((0 : Nat) : Int) = 0 from rfl] at C1
    rw [Nat.add_zero] at hS hfz HROW HNX HBS
    clear hx hB ho hbl
    go_wp2
    go_region_with (first
       | (go_at_call 178; (with_reducible refine (C2.out _).mono ?_); rintro e w' ⟨rfl, rfl⟩)
       | (go_at_call 178; (with_reducible refine (C1.out _ ?_).mono ?_); exact hbd; rintro e w' ⟨rfl, rfl⟩))
    all_goals
     go_wp2_with fail
     rw [← HW.out]
     exact ⟨⟨0 + 1, _, rfl, hlt, HROW, HNX, Ae HBS.out 1⟩, by simp [intOf]; omega⟩
   ·obtain ⟨j, rfl⟩ : ∃ j, k = j + 1 := ⟨k - 1, by omega⟩
    have C2 := Lh (fun W (hW : Below g w W) => Dz A m d j b B W hbl (by omega) (hB2.out.below (hW.mono hgB)))
    obtain ⟨y, hy⟩ : ∃ y, b.getD j 0 = y := ⟨_, rfl⟩
    rw [hy] at C2
    have HW := Lh (show ((Jv b s (j + 1) : Nat) : Int) = bits BinOp.or IntKind.u32 ((x : Int) * 2 ^ s % 4294967296) ((y : Int) / 2 ^ (32 - s)) by
     rw [Aok x y s hs (by rw [← hy]; exact hB2.out.1.getD j)]
     unfold Jv E5; rw [hx, if_neg (by omega), Nat.add_sub_cancel, hy])
    rw [show ((j + 1 : Nat) : Int) = (j : Int) + 1 by omega] at C1 hkk
    have e1 : IntKind.i64.wrap (j : Int) = (j : Int) := IntWalk.i64_in _ (by omega)
    clear hx hy hB ho hbl hk0 hk
    go_wp2
    go_region_with (first
       | (go_at_call 178; (with_reducible refine (C1.out _ ?_).mono ?_); exact hbd; rintro e w' ⟨rfl, rfl⟩)
       | (go_at_call 178; (with_reducible refine (C2.out _ ?_).mono ?_); exact hbd; rintro e w' ⟨rfl, rfl⟩))
    all_goals
     go_wp2_with fail
     rw [← HW.out]
     exact ⟨⟨j + 1 + 1, _, rfl, hlt, HROW, HNX, Ae HBS.out 1⟩, by simp [intOf]; omega⟩
  ·have hkn : k = n := by omega
   subst hkn
   clear hlt hbl
   go_wp2
   go_end0
   exact ⟨rfl, S, HS.out, HRS.out, hbw⟩
theorem Rz (hi lo y : Nat) (w : World) (h : hi < y) (hl : lo < 4294967296) (hy : y < 4294967296) :
  Cp 258 #[.int .u32 hi, .int .u32 lo, .int .u32 y] w fun e w' => e = .returned (.tuple #[.int .u32 (((hi * 4294967296 + lo) / y : Nat) : Int), .int .u32 (((hi * 4294967296 + lo) % y : Nat) : Int)]) ∧ ∃ j, w' = w.drewN j := by
 have k1 : IntKind.u64.wrap (hi : Int) = (hi : Int) := IntWalk.u64_in _ (by omega)
 have k2 : IntKind.u64.wrap (lo : Int) = (lo : Int) := IntWalk.u64_in _ (by omega)
 have k3 : IntKind.u64.wrap (y : Int) = (y : Int) := IntWalk.u64_in _ (by omega)
 obtain ⟨U, hU⟩ : ∃ U, hi * 4294967296 = U := ⟨_, rfl⟩
 have k4 : IntKind.u64.wrap ((hi : Int) * 4294967296) = (U : Int) := by rw [IntWalk.u64_in _ (by omega)]; omega
 have hor := Pz hi lo hl
 rw [hU] at hor ⊢
 obtain ⟨t, ht⟩ : ∃ t, U + lo = t := ⟨_, rfl⟩
 rw [ht] at hor ⊢
 have k5 : bits BinOp.or IntKind.u64 (U : Int) (lo : Int) = (t : Int) := by rw [E3 U lo (by omega) (by omega), hor]
 have hq : t / y < 4294967296 := by rw [Nat.div_lt_iff_lt_mul (by omega)]; have : (hi + 1) * 4294967296 ≤ y * 4294967296 := Nat.mul_le_mul_right _ h; omega
 have hr : t % y < 4294967296 := Nat.lt_trans (Nat.mod_lt _ (by omega)) hy
 obtain ⟨q, hqe⟩ : ∃ q, t / y = q := ⟨_, rfl⟩
 obtain ⟨r, hre⟩ : ∃ r, t % y = r := ⟨_, rfl⟩
 have k6 : (t : Int) / (y : Int) = (q : Int) := by rw [← hqe]; exact (Int.natCast_ediv t y).symm
 have k7 : (t : Int) % (y : Int) = (r : Int) := by rw [← hre]; exact (Int.natCast_emod t y).symm
 rw [hqe] at hq ⊢
 rw [hre] at hr ⊢
 have k8 : IntKind.u32.wrap (q : Int) = (q : Int) := IntWalk.u32_in _ (by omega)
 have k10 : IntKind.u64.wrap (q : Int) = (q : Int) := IntWalk.u64_in _ (by omega)
 have k9 : IntKind.u32.wrap (r : Int) = (r : Int) := IntWalk.u32_in _ (by omega)
 have y0 : ((y : Int) == 0) = false := by simp; omega
 have y1 : (hi : Int) < (y : Int) := by omega
 have y2 : ¬ (y : Int) = 0 := by omega
 clear h hl hy hU hor ht hq hr hqe hre
 go_enter Tryz.func258, Tryz.ntmps258
 go_wp2
 go_quiet (fail)
 go_wp2
 go_ret2
 exact ⟨rfl, _, rfl⟩
theorem Ahb (A : Option Addr) (n c : Nat) (l : List Nat) (w : World) (hn : l.length = n) (hc : n ≤ c) (hm : n ≤ 35184372088832) (h : RW w w.heap.size A l) :
  Cp 220 #[.slice A n c] w (fun e w' => e = .returned (.slice (some ⟨w.heap.size, 0, none⟩) (nrm l).length (nrm l).length) ∧ Row w' w.heap.size (nrm l) ∧ Below w.heap.size w w') := by
 have c1 := fun W (h : RW W w.heap.size A l) => As A n c l w.heap.size W hn hc hm h
 obtain ⟨m, hm0⟩ : ∃ m, (nrm l).length = m := ⟨_, rfl⟩
 have hle : m ≤ n := by rw [← hm0, ← hn]; exact Ba l
 rw [hm0] at c1 ⊢
 have hmk := run_make_row' (P := Tryz.prog) 121 129 (.int .u32 0) 4 Tryz.underlying121 Ef rfl .i64 .i64 m (by omega) (by omega) w
 have hmade := World.rowIs_made w (.int .u32 0) m 129
 have HC := Lh (h.nrm)
 have HM := Lh hm0
 have hm1 : (m : Int) ≤ 35184372088832 := by omega
 have HR := Lh h
 have HX := Lh hmade
 clear h hn hc hm hm0 hle hmade
 go_enter Tryz.func220, Tryz.ntmps220
 go_wp2_with (first | (go_at_call 218; refine (c1 _ HR.out).mono ?_; rintro e w' ⟨rfl, rfl⟩) | (with_reducible refine wpList_copy_splice rfl (.tmp 9) (.tmp 10) 121 121 rfl 129 Tryz.underlying121 (by kernel_rfl) (some ⟨w.heap.size, 0, none⟩) A m m m m ?e1 ?e2 w.heap.size 0 (List.replicate m (.int .u32 0)) 129 ?k1 ((nrm l).map fun u => Value.int .u32 (u : Nat)) ?k2 ?k3 ?k4 ?k5 w.heap.size w ?k6 (Nat.le_refl _) ?_))
 case e1 => rfl
 case e2 => rfl
 case k1 =>
  have e := heap_alloc_new w (.cells (madeCells #[Value.int .u32 0] m) 129)
  rw [show madeCells #[Value.int .u32 0] m = (List.replicate m (Value.int .u32 0)).toArray from Array.toList_inj.1 (by rw [toList_madeCells_one, List.toList_toArray])] at e ⊢
  exact e
 case k2 => rw [List.length_map, HM.out]; exact (Nat.min_self _).symm
 case k3 =>
  intro hp
  have hp' : 0 < (nrm l).length := by simpa using hp
  obtain ⟨b, off, e, hb, hc⟩ := HC.out.2 hp'
  refine ⟨⟨b, off, none⟩, e, fun j u hu => ?_⟩
  rw [World.cell?_alloc_lt]
  ·exact U0 hc j _ (by rw [List.getElem?_map, hu]; rfl)
  ·unfold Addr.add; split <;> exact hb
 case k4 => rw [List.length_map, HM.out, List.length_replicate]; omega
 case k5 => exact Un _
 case k6 => exact (Below.refl _ _).alloc (Nat.le_refl _) _
 intro w2 HG2 hB2
 go_wp2
 go_ret
 refine ⟨rfl, ?_, hB2⟩
 have hG := HG2.out
 have e : splice (List.replicate m (Value.int .u32 0)) 0 ((nrm l).map fun u => Value.int .u32 (u : Nat)) = (nrm l).map fun u => Value.int .u32 (u : Nat) := by
  unfold splice
  rw [List.take_zero, List.nil_append, List.drop_of_length_le (by rw [List.length_replicate, List.length_map, HM.out]; omega), List.append_nil]
 rw [e] at hG
 exact hG
theorem Pk (g n c d : Nat) (a : List Nat) (w : World) (hR : Row w g a) (hw : Ws a) (hn : a.length = n) (hm : n ≤ 35184372088832) (hd : d < 4294967296) (hd0 : 0 < d) :
  Cp 246 #[.slice (some ⟨g, 0, none⟩) n c, .int .u32 d] w (fun e w' => e = .returned (.int .u32 ((val a % d : Nat) : Int)) ∧ ∃ S, Row w' g S ∧ S.length = n ∧ Ws S ∧ val S = val a / d ∧ Below g w w') := by
 have HR := Lh hR
 have HW := Lh hw
 have HN := Lh hn
 have hm1 : (n : Int) ≤ 35184372088832 := by omega
 have HD := Lh hd
 have HD0 := Lh hd0
 have HST := Lh (show WordT a d n a 0 from hn ▸ WordT.start hw hd0)
 clear hR hw hn hm hd hd0
 go_enter Tryz.func246, Tryz.ntmps246
 go_wp2
 go_loopw [5, 6] (fun v i wr => ∃ (k : Nat) (S : List Nat) (r : Nat), i = .int .i64 ((k : Int) - 1) ∧ v = .int .u32 (r : Nat) ∧ k ≤ n ∧ Hid (Row wr g S) ∧ Hid (WordT a d k S r) ∧ Below g w wr) (fun _ i _ => (intOf i + 1).toNat)
 case atStart => exact ⟨n, a, 0, rfl, rfl, Nat.le_refl _, HR, HST, Below.refl _ _⟩
 case round =>
  obtain ⟨k, S, r, rfl, rfl, hk, HS, HT, hbw⟩ := hrel
  by_cases h0 : k = 0
  ·subst h0
   obtain ⟨f1, f2⟩ := HT.out.fin
   have HF := Lh f1
   have HL := Lh HT.out.len
   rw [f2]
   clear f1 f2
   go_wp2
   go_ret
   exact ⟨rfl, S, HS.out, by rw [HL.out, HN.out], HT.out.ws, HF.out, hbw⟩
  ·obtain ⟨j, rfl⟩ : ∃ j, k = j + 1 := ⟨k - 1, by omega⟩
   have hja : j < a.length := by rw [HN.out]; omega
   obtain ⟨e1, e2, hnx⟩ := HT.out.next HW.out hja HD.out
   have hcell := HS.out.cell j (by rw [HT.out.len]; exact hja)
   have hfz := HS.out.frozen j
   have hx := HW.out.getD j
   have C1 := Lh (fun W => Rz r (a.getD j 0) d W HT.out.low hx HD.out)
   rw [e1] at hcell
   obtain ⟨x, hxe⟩ : ∃ x, a.getD j 0 = x := ⟨_, rfl⟩
   rw [hxe] at hcell C1 hnx
   obtain ⟨q, hq⟩ : ∃ q, (r * 4294967296 + x) / d = q := ⟨_, rfl⟩
   obtain ⟨z, hz⟩ : ∃ z, (r * 4294967296 + x) % d = z := ⟨_, rfl⟩
   rw [hq, hz] at C1 hnx
   have HNX := Lh hnx
   have hjn : (j : Int) < (n : Int) := by omega
   have k1 : IntKind.i64.wrap ((j : Int) - 1) = (j : Int) - 1 := IntWalk.i64_in _ (by omega)
   clear e1 e2 hnx hja hx hxe hq hz h0
   rw [show (((j + 1 : Nat) : Int) - 1) = (j : Int) by omega]
   go_wp2_with (go_at_call 258; refine (C1.out _).mono ?_; rintro e w' ⟨rfl, j2, rfl⟩)
   go_roundw
   case rel => exact ⟨j, _, z, by go_num, rfl, by omega, Lh ((HS.out.drewN j2).set j q), HNX, (Ae hbw j2).setCell (Nat.le_refl _) _⟩
   case measure => simp [intOf]
theorem Ah5 {v : Nat} (h : Am v = false) : (wds v).length ≤ 1024 := by
 unfold Am at h
 have h1 := of_decide_eq_false h
 omega
theorem Rj (x y c : Nat) (w : World) (hx : x < 4294967296) (hy : y < 4294967296) (hc : c < 4294967296) :
  Cq 235 #[.int .u32 x, .int .u32 y, .int .u32 c] (.tuple #[.int .u32 ((x + y + c) % 4294967296 : Nat), .int .u32 ((x + y + c) / 4294967296 : Nat)]) w := by
 have k1 : IntKind.u64.wrap (x : Int) = (x : Int) := IntWalk.u64_in _ (by omega)
 have k2 : IntKind.u64.wrap (y : Int) = (y : Int) := IntWalk.u64_in _ (by omega)
 have k3 : IntKind.u64.wrap (c : Int) = (c : Int) := IntWalk.u64_in _ (by omega)
 have k4 : IntKind.u64.wrap ((x : Int) + (y : Int)) = (x : Int) + (y : Int) := IntWalk.u64_in _ (by omega)
 obtain ⟨t, ht⟩ : ∃ t, x + y + c = t := ⟨_, rfl⟩
 have k5 : IntKind.u64.wrap ((x : Int) + (y : Int) + (c : Int)) = (t : Int) := by rw [IntWalk.u64_in _ (by omega)]; omega
 rw [ht]
 have HT := Lh (show t < 12884901888 by omega)
 have k6 : IntKind.u32.wrap ((t : Int) / 4294967296) = (t : Int) / 4294967296 := IntWalk.u32_in _ (by omega)
 clear hx hy hc ht
 go_enter Tryz.func235, Tryz.ntmps235
 go_wp2
 go_ret2
 exact ⟨rfl, rfl⟩
theorem An6 (A C : Option Addr) (n c m d : Nat) (l k : List Nat) (w : World) (hn : l.length = n) (hc : n ≤ c) (hm : n ≤ 35184372088832) (h : RW w w.heap.size A l)
  (gn : k.length = m) (gc : m ≤ d) (gm : m ≤ 35184372088832) (g : RW w w.heap.size C k) (hl : (Am (val l) || Am (val k)) = false) :
  Cp 203 #[.slice A n c, .slice C m d] w (NatPost (val l + val k) w) := by
 have c1 := Cj A C n c m d l k w hn hc hm h gn gc gm g
 have hp : Below w.heap.size w (Fr w (.slice A n c) (.slice C m d)) := (Below.refl _ _).alloc (Nat.le_refl _) _
 rw [hl] at c1
 obtain ⟨hl1, hl2⟩ : Am (val l) = false ∧ Am (val k) = false := by simpa using hl
 have c2 := As A n c l w.heap.size _ hn hc hm (h.below hp)
 have c3 := As C m d k w.heap.size _ gn gc gm (g.below hp)
 have n1 := Ej h.1 hl1
 have n2 := Ej g.1 hl2
 obtain ⟨a, ha⟩ : ∃ a, nrm l = a := ⟨_, rfl⟩
 obtain ⟨b, hb⟩ : ∃ b, nrm k = b := ⟨_, rfl⟩
 have hA := h.nrm
 have hB := g.nrm
 rw [ha] at n1 c2 hA
 rw [hb] at n2 c3 hB
 rw [← Aq l, ← Aq k, ha, hb]
 obtain ⟨N, hN⟩ : ∃ N, a.length = N := ⟨_, rfl⟩
 obtain ⟨M, hM⟩ : ∃ M, b.length = M := ⟨_, rfl⟩
 rw [hN] at n1 c2
 rw [hM] at n2 c3
 obtain ⟨K, hK⟩ : ∃ K, max N M = K := ⟨_, rfl⟩
 have hK1 : N ≤ K := by omega
 have hK2 : M ≤ K := by omega
 have hmax : max (N : Int) (M : Int) = (K : Int) := by omega
 clear h g hn hc hm gn gc gm hl hl1 hl2 ha hb
 obtain ⟨W, hW⟩ : ∃ W, Fr w (.slice A n c) (.slice C m d) = W := ⟨_, rfl⟩
 rw [hW] at c1 c2 c3 hp
 have HW := Lh hW
 have hmk := run_make_row' (P := Tryz.prog) 121 129 (.int .u32 0) 4 Tryz.underlying121 Ef rfl .i64 .i64 (K + 1) (by omega) (by omega) W
 rw [show ((K + 1 : Nat) : Int) = (K : Int) + 1 by omega] at hmk
 have hrow := Row.made W (K + 1)
 have hKK : (K : Int) ≤ 1024 := by omega
 have HN := Lh hN
 have HM := Lh hM
 have HA := Lh hA
 have HB := Lh hB
 have hgW := hp.size
 have HROW := Lh hrow
 have hbl0 : Below w.heap.size w (W.alloc (.cells (madeCells #[.int .u32 0] (K + 1)) 129)) := hp.alloc hp.size _
 have HBL := Lh hbl0
 have HK1 := Lh hK1
 have HK2 := Lh hK2
 have n1' := Lh n1
 have n2' := Lh n2
 clear hA hB hN hM hp hrow n1 n2 hbl0 hW hK hK1 hK2
 go_enter Tryz.func203, Tryz.ntmps203
 go_wp2_with fail
 rw [show w.alloc (.cells #[.slice A n c, .slice C m d] 121) = W from HW.out]
 refine c1.mono ?_
 rintro e w1 ⟨rfl, rfl⟩
 go_wp2_with fail
 refine c2.mono ?_
 rintro e w1 ⟨rfl, rfl⟩
 go_wp2_with fail
 refine c3.mono ?_
 rintro e w1 ⟨rfl, rfl⟩
 clear c1 c2 c3
 go_wp2
 go_loopw [26, 7] (fun i v wr => ∃ (q : Nat) (S : List Nat) (r : Nat), i = .int .i64 q ∧ v = .int .u32 (r : Nat) ∧ q ≤ K + 1 ∧ Hid (Row wr W.heap.size S) ∧ Hid (SumT a b q S r) ∧ Hid (S.length = K + 1) ∧ Below w.heap.size w wr) (fun i _ _ => K + 1 - (intOf i).toNat)
 case atStart => exact ⟨0, _, 0, rfl, rfl, Nat.zero_le _, HROW, Lh (SumT.start a b _ (Ws.zeros _)), Lh List.length_replicate, HBL.out⟩
 case round =>
  obtain ⟨q, S, r, rfl, rfl, hq, HR, HT, HSL, hbw⟩ := hrel
  by_cases hlt : q < K + 1
  ·have hx := HA.out.1.getD q
   have hy := HB.out.1.getD q
   have hr := HT.out.low
   have hcell := HR.out.cell q (by rw [HSL.out]; exact hlt)
   have hfz := HR.out.frozen q
   obtain ⟨t, ht⟩ : ∃ t, Xk a b q r = t := ⟨_, rfl⟩
   have htl := Up (k := q) HA.out.1 HB.out.1 hr
   rw [ht] at htl
   have C1 := Lh (Dz A N N q a w.heap.size wr HN.out (by have := n1'.out; omega) (HA.out.below hbw))
   have C2 := Lh (Dz C M M q b w.heap.size wr HM.out (by have := n2'.out; omega) (HB.out.below hbw))
   have c3 := Rj (a.getD q 0) (b.getD q 0) r wr hx hy (by omega)
   rw [show a.getD q 0 + b.getD q 0 + r = t from ht] at c3
   have C3 := Lh c3
   have HSET := Lh (HR.out.set q (t % 4294967296))
   have HNX := Lh (show SumT a b (q + 1) (S.set q (t % 4294967296)) (t / 4294967296) by
    rw [← ht]
    refine HT.out.next HA.out.1 HB.out.1 (HT.out.ws.set (by omega)) ?_ ?_
    ·exact Cn q (by rw [List.length_set, HSL.out]; omega) (by rw [HSL.out]; omega) (fun j hj => Ao (by omega))
    ·exact Bb (by rw [HSL.out]; exact hlt))
   have HSL2 := Lh (show (S.set q (t % 4294967296)).length = K + 1 by rw [List.length_set]; exact HSL.out)
   have hq1 : (q : Int) < (K : Int) + 1 := by omega
   clear hx hy hr ht htl c3
   go_wp2_with fail
   refine C1.out.mono ?_
   rintro e w1 ⟨rfl, rfl⟩
   go_wp2_with fail
   refine C2.out.mono ?_
   rintro e w1 ⟨rfl, rfl⟩
   go_wp2_with fail
   refine C3.out.mono ?_
   rintro e w1 ⟨rfl, rfl⟩
   clear C1 C2 C3
   go_wp2
   go_roundw
   case rel => exact ⟨q + 1, _, t / 4294967296, by go_num, by go_num, by omega, HSET, HNX, HSL2, hbw.setCell hgW _⟩
   case measure => simp [intOf]; omega
  ·have hqK : q = K + 1 := by omega
   have hlt2 := HR.out.lt
   have HV := Lh (show val S = val a + val b from (hqK ▸ HT.out : SumT a b (K + 1) S r).whole HA.out.1 HB.out.1 (by rw [HN.out]; exact HK1.out) (by rw [HM.out]; exact HK2.out) HSL.out)
   have C1 := Lh (Ge (some ⟨W.heap.size, 0, none⟩) (K + 1) (K + 1) S wr HSL.out (Nat.le_refl _) (by omega) ((HR.out.rw0 HT.out.ws).more hlt2))
   have hq1 : ¬ (q : Int) < (K : Int) + 1 := by omega
   clear hqK hlt2
   go_wp2_with fail
   refine C1.out.mono ?_
   rintro e w2 h
   have h2 := NatPost.from_ hbw h
   rw [HV.out] at h2
   obtain ⟨A2, n2, c2, k2, rfl, h3, h4⟩ := h2
   have H3 := Lh h3
   have H4 := Lh h4
   clear h h3 h4 C1
   go_wp2
   go_ret2
   exact ⟨A2, n2, c2, k2, rfl, H3.out, H4.out⟩
theorem Ah2 (A C : Option Addr) (n c m d : Nat) (l k : List Nat) (w : World) (hn : l.length = n) (hc : n ≤ c) (hm : n ≤ 35184372088832) (h : RW w w.heap.size A l)
  (gn : k.length = m) (gc : m ≤ d) (gm : m ≤ 35184372088832) (g : RW w w.heap.size C k) (hl : (Am (val l) || Am (val k)) = true) :
  Cp 203 #[.slice A n c, .slice C m d] w (Do 3 w) := by
 have c1 := Cj A C n c m d l k w hn hc hm h gn gc gm g
 have hp : Below w.heap.size w (Fr w (.slice A n c) (.slice C m d)) := (Below.refl _ _).alloc (Nat.le_refl _) _
 rw [hl] at c1
 have HP := Lh hp
 clear h g hn hc hm gn gc gm hl hp
 go_enter Tryz.func203, Tryz.ntmps203
 go_wp2_with fail
 refine c1.mono ?_
 rintro e w1 ⟨rfl, rfl⟩
 go_wp2
 go_ret2
 exact ⟨rfl, HP.out⟩
def Alq (v u : Nat) (w : World) (e : Ending) (w' : World) : Prop := if (Am v || Am u) = true then Do 3 w e w' else NatPost (v + u) w e w'
theorem Alw (A C : Option Addr) (n c m d : Nat) (l k : List Nat) (w : World) (hn : l.length = n) (hc : n ≤ c) (hm : n ≤ 35184372088832) (h : RW w w.heap.size A l)
  (gn : k.length = m) (gc : m ≤ d) (gm : m ≤ 35184372088832) (g : RW w w.heap.size C k) :
  Cp 203 #[.slice A n c, .slice C m d] w (Alq (val l) (val k) w) := by
 cases hl : (Am (val l) || Am (val k))
 ·exact (An6 A C n c m d l k w hn hc hm h gn gc gm g hl).mono (fun e w' x => by unfold Alq; rw [if_neg (by rw [hl]; simp)]; exact x)
 ·exact (Ah2 A C n c m d l k w hn hc hm h gn gc gm g hl).mono (fun e w' x => by unfold Alq; rw [if_pos hl]; exact x)
theorem Fs (A C : Option Addr) (n c m d : Nat) (l k : List Nat) (w : World) (hn : l.length = n) (hm : n ≤ 35184372087808) (h : RW w w.heap.size A l)
  (gn : k.length = m) (gm : m ≤ 35184372087808) (g : RW w w.heap.size C k) :
  Cp 137 #[.slice A n c, .slice C m d] w (SlPost (wds (val l + val k)) w) := by
 obtain ⟨i0, hi, hz0, hz1, hz2⟩ := info_parts Ef
 have C1 := Lh (fun W (hb : Below w.heap.size w W) i => Ap A n c i l w.heap.size W hn (by omega) (h.below hb))
 have C2 := Lh (fun W (hb : Below w.heap.size w W) i => Ap C m d i k w.heap.size W gn (by omega) (g.below hb))
 have HL := Lh h.1
 have HK := Lh g.1
 have HN := Lh hn
 have HM := Lh gn
 have hn1 : (n : Int) ≤ 35184372087808 := by omega
 have hm1 : (m : Int) ≤ 35184372087808 := by omega
 clear hn hm h gn gm g
 go_enter Tryz.func137, Tryz.ntmps137
 go_wp2
 go_loopw [5, 6, 7] (fun v cv i wr => ∃ (q : Nat) (S : List Nat) (r : Nat), i = .int .i64 q ∧ cv = .int .u64 (r : Nat) ∧ (q : Int) ≤ 35184372087808 ∧ Hid (OwnW w.heap.size S v wr) ∧ Hid (SumT l k q S r) ∧ Hid (S.length = q) ∧ Hid (q ≤ max n m) ∧ Below w.heap.size w wr) (fun _ _ i _ => max n m - (intOf i).toNat)
 case atStart => exact ⟨0, [], 0, rfl, rfl, by omega, Lh (OwnW.nil _ _), Lh (SumT.start l k [] Ws.nil), Lh rfl, Lh (Nat.zero_le _), Below.refl _ _⟩
 case round =>
  obtain ⟨q, S, r, rfl, rfl, hq, HO, HT, HSL, HQ, hbw⟩ := hrel
  have hsl : S.length = q := HSL.out
  by_cases hend : n ≤ q ∧ m ≤ q
  ·obtain ⟨h1, h2⟩ := hend
   obtain ⟨e1, e2⟩ := HT.out.end_ (by rw [HN.out]; exact h1) (by rw [HM.out]; exact h2) hsl
   have hr := HT.out.low
   have k1 : IntKind.u32.wrap (r : Int) = (r : Int) := IntWalk.u32_in _ (by omega)
   have d1 : decide (q < n) = false := by simp; omega
   have d2 : decide (q < m) = false := by simp; omega
   have HE1 := Lh e1
   have HE2 := Lh (show nrm (S ++ [r]) = wds (val l + val k) by rw [Bh e1, e2])
   have HSL2 := Lh (show (S.length + 1) * 4 ≤ 140737488355328 ∧ S.length + 1 ≤ maxLen ∧ S.length + 1 ≤ 35184372088832 by unfold maxLen; omega)
   clear h1 h2 e1 e2 hr hsl
   go_wp2_with (at_builtin; refine wpList_append_own _ rfl _ _ 121 rfl w.heap.size 129 i0 (.int .u32 0) 1 4 Tryz.underlying121 hi hz0 hz1 hz2 rfl (by decide) _ _ _ rfl (World.ownsRow.alloc (w := wr) HO.out _) ⟨wr.heap.size, 0, none⟩ 1 1 [.int .u32 (r : Nat)] rfl rfl ?c1 ?c2 ?c3 ?c4 ?c5 ?_)
   case c1 => exact (cell_one_new _ _ _)
   case c2 => simp [Value.oneCell']
   case c3 => exact HSL2.out.2.1
   case c4 => exact HSL2.out.1
   case c5 => have := hbw.size; simp; omega
   intro v' w2 hown hg _
   have ho := OwnW.snoc hown
   have hbb : Below w.heap.size w w2 := (hbw.alloc hbw.size _).grown hg (by have := hbw.size; simp; omega) (fun j hj => (World.ownsRow.lt HO.out j hj).1)
   obtain ⟨A2, c2, hv, hcc, hr2⟩ := ho.sl HE1.out
   obtain ⟨N2, hN2⟩ : ∃ N2, (S ++ [r]).length = N2 := ⟨_, rfl⟩
   have C3 := Lh (Bo A2 N2 c2 (S ++ [r]) w2.heap.size w2 hN2 (by rw [← hN2]; exact hcc) (by rw [← hN2, List.length_append]; exact HSL2.out.2.2) hr2)
   rw [hN2] at hv
   clear hown hg ho hr2 hcc hN2
   subst hv
   go_wp2_with fail
   refine C3.out.mono ?_
   rintro e w3 ⟨v3, rfl, ho3, hb3⟩
   rw [HE2.out] at ho3
   have HO3 := Lh (ho3.sl (Ax _))
   clear ho3 C3
   go_wp2
   go_ret
   exact ⟨_, rfl, HO3.out, Aa hbb hb3⟩
  ·have hx := HL.out.getD q
   have hy := HK.out.getD q
   have hr := HT.out.low
   obtain ⟨t, ht⟩ : ∃ t, Xk l k q r = t := ⟨_, rfl⟩
   have htl := Up (k := q) HL.out HK.out hr
   rw [ht] at htl
   have D1 := Lh (C1.out wr hbw q)
   have D2 := Lh (C2.out wr hbw q)
   have HNX := Lh (show SumT l k (q + 1) (S ++ [t % 4294967296]) (t / 4294967296) by
    rw [← ht]
    refine HT.out.next HL.out HK.out (HT.out.ws.append (Ws.cons (by omega) Ws.nil)) ?_ ?_
    ·rw [List.take_append_of_le_length (by omega)]
    ·rw [List.getD_eq_getElem?_getD, List.getElem?_append_right (by omega), hsl]; simp)
   obtain ⟨x, hxe⟩ : ∃ x, l.getD q 0 = x := ⟨_, rfl⟩
   obtain ⟨y, hye⟩ : ∃ y, k.getD q 0 = y := ⟨_, rfl⟩
   have hsum : x + y + r = t := by rw [← hxe, ← hye]; exact ht
   rw [hxe] at D1 hx
   rw [hye] at D2 hy
   have k1 : IntKind.u64.wrap ((x : Int) + (y : Int)) = (x : Int) + (y : Int) := IntWalk.u64_in _ (by omega)
   have k2 : IntKind.u64.wrap ((x : Int) + (y : Int) + (r : Int)) = (t : Int) := by rw [IntWalk.u64_in _ (by omega)]; omega
   have hlt : decide (q < n) = true ∨ (decide (q < n) = false ∧ decide (q < m) = true) := by simp; omega
   have HSL2 := Lh (show (S.length + 1) * 4 ≤ 140737488355328 ∧ S.length + 1 ≤ maxLen by unfold maxLen; omega)
   have HSL3 := Lh (show (S ++ [t % 4294967296]).length = q + 1 by rw [List.length_append, hsl]; rfl)
   have HQ2 := Lh (show q + 1 ≤ max n m by omega)
   have hq2 : ((q : Int) + 1) ≤ 35184372087808 := by omega
   clear hx hy hr ht htl hxe hye hsum hsl hend
   rcases hlt with d1 | ⟨d1, d2⟩
   all_goals
    go_wp2_with fail
    refine D1.out.mono ?_
    rintro e w1 ⟨rfl, rfl⟩
    go_wp2_with fail
    refine D2.out.mono ?_
    rintro e w1 ⟨rfl, rfl⟩
    go_wp2_with (at_builtin; refine wpList_append_own _ rfl _ _ 121 rfl w.heap.size 129 i0 (.int .u32 0) 1 4 Tryz.underlying121 hi hz0 hz1 hz2 rfl (by decide) _ _ _ rfl (World.ownsRow.alloc (w := wr) HO.out _) ⟨wr.heap.size, 0, none⟩ 1 1 [.int .u32 ((t % 4294967296 : Nat) : Int)] rfl rfl ?c1 ?c2 ?c3 ?c4 ?c5 ?_)
    case c1 => exact (cell_one_new _ _ _)
    case c2 => simp [Value.oneCell']
    case c3 => exact HSL2.out.2
    case c4 => exact HSL2.out.1
    case c5 => have := hbw.size; simp; omega
    intro v' w2 hown hg _
    have HO2 := Lh (OwnW.snoc hown)
    have hbb : Below w.heap.size w w2 := (hbw.alloc hbw.size _).grown hg (by have := hbw.size; simp; omega) (fun j hj => (World.ownsRow.lt HO.out j hj).1)
    clear hown hg
    go_wp2
    go_roundw
    case rel => exact ⟨q + 1, _, t / 4294967296, by go_num, by go_num, by omega, HO2, HNX, HSL3, HQ2, hbb⟩
    case measure => have := HQ2.out; simp [intOf]; omega
theorem Ak4 {P Q v u : Nat} (h1 : v < P) (h2 : u < P) (h3 : 2 * P ≤ Q) : v + u < Q := by omega
theorem Mj (v u : Nat) : (wds (v + u)).length ≤ max (wds v).length (wds u).length + 1 := by
 obtain ⟨K, hK⟩ : ∃ K, max (wds v).length (wds u).length = K := ⟨_, rfl⟩
 rw [hK]
 exact Bi (Ak4 (Nat.lt_of_lt_of_le (Fx v) (Nat.pow_le_pow_right (by omega) (by omega))) (Nat.lt_of_lt_of_le (Fx u) (Nat.pow_le_pow_right (by omega) (by omega))) (Lv K))
def rvF (N k : Nat) (l : List Nat) (x : Nat) : Nat := if x < k ∨ N < x + 1 + k then l.getD (N - 1 - x) 0 else l.getD x 0
structure RvT (l : List Nat) (N k : Nat) (S : List Nat) : Prop where
 len : S.length = N
 at_ : ∀ j, j < N → S.getD j 0 = rvF N k l j
theorem RvT.start {l : List Nat} {N : Nat} (h : l.length = N) : RvT l N 0 l := ⟨h, fun j hj => by unfold rvF; rw [if_neg (by omega)]⟩
theorem RvT.next {l : List Nat} {N k m : Nat} {S : List Nat} (h : RvT l N k S) (hm : m = N - 1 - k) (hk : k < m) :
  S.getD k 0 = l.getD k 0 ∧ S.getD m 0 = l.getD m 0 ∧ RvT l N (k + 1) ((S.set k (l.getD m 0)).set m (l.getD k 0)) := by
 have hl := h.len
 refine ⟨by rw [h.at_ k (by omega)]; unfold rvF; rw [if_neg (by omega)], by rw [h.at_ m (by omega)]; unfold rvF; rw [if_neg (by omega)], by simp [hl], fun j hj => ?_⟩
 by_cases h1 : j = m
 ·subst h1
  rw [Bb (by simp; omega)]
  unfold rvF; rw [if_pos (by omega), show N - 1 - j = k by omega]
 ·rw [Ao (by omega)]
  by_cases h2 : j = k
  ·subst h2
   rw [Bb (by omega)]
   unfold rvF; rw [if_pos (by omega), ← hm]
  ·rw [Ao (by omega), h.at_ j hj]
   unfold rvF
   by_cases h3 : j < k ∨ N < j + 1 + k
   ·rw [if_pos h3, if_pos (by omega)]
   ·rw [if_neg h3, if_neg (by omega)]
theorem RvT.fin {l : List Nat} {N k : Nat} {S : List Nat} (h : RvT l N k S) (hl : l.length = N) (hk : ¬ 2 * k + 1 < N) : S = l.reverse := by
 apply List.ext_getElem?
 intro j
 by_cases hj : j < N
 ·have h1 := h.at_ j hj
  have e1 : rvF N k l j = l.getD (N - 1 - j) 0 := by
   unfold rvF
   by_cases h3 : j < k ∨ N < j + 1 + k
   ·rw [if_pos h3]
   ·rw [if_neg h3, show N - 1 - j = j by omega]
  rw [e1] at h1
  rw [getD_some (by rw [h.len]; exact hj), h1, List.getElem?_reverse (by omega), hl]
  rw [getD_some (by omega)]
 ·rw [List.getElem?_eq_none (by rw [h.len]; omega), List.getElem?_eq_none (by rw [List.length_reverse]; omega)]
theorem F3 (n : Nat) (h : n < 18446744073709551616) : nrm (two n) = wds n := by rw [Bh (Zp h), Ach]
end
end Go.Proofs.YtmakhfekiieneaaGreatDoor
