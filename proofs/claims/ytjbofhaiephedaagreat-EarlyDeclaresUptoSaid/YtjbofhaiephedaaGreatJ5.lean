/-
  What each Kind of node may have, as the program's table of tests says it. No program in it.
-/
import Derived.Test.YtjbofhaiephedaaGreatJ2
import Derived.Test.YtjbofhaiephedaaGreatJ4
import Derived.Test.YtjbofhaiephedaaGreatCp
namespace Go.Proofs.YtjbofhaiephedaaGreat
abbrev TT := Tn → Bool
def kd (t : Tn) : Int := t.datum.k
def tIs (ks : List Int) : TT := fun t => ks.any fun k => kd t == k
def tOp (ops : List (List UInt8)) : TT := fun t => ops.any fun o => t.datum.op.toList == o
def tAcc (n : Int) : TT := fun t => kd t == 13 && (t.datum.st.toList.isEmpty && (t.kids.length : Int) == n + 1)
def tEither (s t : TT) : TT := fun x => s x || t x
def tBoth (s t : TT) : TT := fun x => s x && t x
def tNot (t : TT) : TT := fun x => !t x
def zipAll : List TT → List Tn → Bool
  | p :: ps, x :: xs => p x && zipAll ps xs
  | _, _ => true
def tRow (l : List TT) : TT := fun x => x.kids.length == l.length && zipAll l x.kids
def tEach (t : TT) : TT := fun x => x.kids.all t
def tFirst (s t : TT) : TT := fun x => match x.kids with
  | [] => false
  | y :: l => s y && l.all t
def tLast (s t : TT) : TT := fun x => match x.kids.getLast? with
  | none => false
  | some y => x.kids.dropLast.all s && t y
def tFree : TT := fun _ => true
def tFlag : TT := fun x => x.datum.fl
def tUnnamed : TT := fun x => x.datum.st.toList.isEmpty
def tText : TT := fun x => x.datum.st.size % 2 == 0
def tExpr : TT := fun x => !(tIs [8, 10, 11, 12] x) && (decide (1 ≤ kd x) && decide (kd x ≤ 24))
def tLeft : TT := fun x => tExpr x && decide (kd x ≤ 17)
def tStat : TT := fun x => !(tIs [45, 58, 61] x) && (decide (43 ≤ kd x) && decide (kd x ≤ 62))
mutual
/-- A statement without an open end, gone down along the last Kids. -/
def cloG : Tn → Bool
  | .mk d l => if l.length == 0 then true else if d.k == 48 && l.length == 2 then false else if d.k == 48 || d.k == 50 || d.k == 51 || d.k == 52 || d.k == 56 then cloL l else true
def cloL : List Tn → Bool
  | [] => true
  | [x] => cloG x
  | _ :: y :: l => cloL (y :: l)
end
def tClosed : TT := fun x => tStat x && cloG x
def tOneVar : TT := fun x => kd x == 44 && x.kids.length == 1
def tOneDef : TT := fun x => decide ((x.kids.filter fun y => kd y == 58 && y.datum.fl).length ≤ 1)
def tAmount : TT := fun x => !fnan x.datum.nm && !fneg x.datum.nm
section
variable (nmd rsv : ByteArray → Bool)
def tMember : TT := fun x => tText x && nmd x.datum.st
def tName : TT := fun x => tMember nmd x && !rsv x.datum.st
structure Shp where
  op : Option TT := none
  st : Option TT := none
  nm : Option TT := none
  fl : Option TT := none
  kd : Option TT := none
def shp : Nat → Shp
  | 2 => { st := some (tName nmd rsv) }
  | 4 => { fl := some tFree }
  | 5 => { nm := some tAmount }
  | 6 => { st := some tText }
  | 7 => { kd := some (tEach (tEither tExpr (tIs [8]))) }
  | 9 => { kd := some (tEach (tIs [10, 11, 12])) }
  | 10 => { st := some tText, kd := some (tRow [tExpr]) }
  | 11 => { st := some tText, kd := some (tRow [tAcc 0]) }
  | 12 => { st := some tText, kd := some (tRow [tAcc 1]) }
  | 13 => { st := some (tEither tUnnamed (tName nmd rsv)), kd := some (tLast (tIs [2]) (tIs [41])) }
  | 14 => { st := some (tMember nmd), kd := some (tRow [tExpr]) }
  | 15 => { kd := some (tRow [tExpr, tExpr]) }
  | 16 => { kd := some (tFirst tExpr tExpr) }
  | 17 => { kd := some (tFirst tExpr tExpr) }
  | 18 => { op := some (tOp [[100, 101, 108, 101, 116, 101], [118, 111, 105, 100], [116, 121, 112, 101, 111, 102], [43, 43], [45, 45], [43], [45], [126], [33]]), kd := some (tBoth (tRow [tExpr]) (tEither (tNot (tOp [[43, 43], [45, 45]])) (tRow [tLeft]))) }
  | 19 => { op := some (tOp [[43, 43], [45, 45]]), kd := some (tRow [tLeft]) }
  | 20 => { op := some (tOp [[42], [47], [37], [43], [45], [60, 60], [62, 62], [62, 62, 62], [60], [62], [60, 61], [62, 61], [105, 110, 115, 116, 97, 110, 99, 101, 111, 102], [105, 110], [61, 61], [33, 61], [61, 61, 61], [33, 61, 61], [38], [94], [124]]), kd := some (tRow [tExpr, tExpr]) }
  | 21 => { op := some (tOp [[38, 38], [124, 124]]), kd := some (tRow [tExpr, tExpr]) }
  | 22 => { kd := some (tRow [tExpr, tExpr, tExpr]) }
  | 23 => { op := some (tOp [[61], [42, 61], [47, 61], [37, 61], [43, 61], [45, 61], [60, 60, 61], [62, 62, 61], [62, 62, 62, 61], [38, 61], [94, 61], [124, 61]]), kd := some (tRow [tLeft, tExpr]) }
  | 24 => { kd := some (tRow [tExpr, tExpr]) }
  | 40 => { kd := some (tEach (tEither tStat (tIs [42]))) }
  | 41 => { kd := some (tEach (tEither tStat (tIs [42]))) }
  | 42 => { st := some (tName nmd rsv), kd := some (tLast (tIs [2]) (tIs [41])) }
  | 43 => { kd := some (tEach tStat) }
  | 44 => { kd := some (tFirst (tIs [45]) (tIs [45])) }
  | 45 => { st := some (tName nmd rsv), kd := some (tEither (tRow []) (tRow [tExpr])) }
  | 47 => { kd := some (tRow [tExpr]) }
  | 48 => { kd := some (tEither (tRow [tExpr, tStat]) (tRow [tExpr, tClosed, tStat])) }
  | 49 => { kd := some (tRow [tStat, tExpr]) }
  | 50 => { kd := some (tRow [tExpr, tStat]) }
  | 51 => { kd := some (tRow [tEither (tEither tExpr (tIs [46])) (tIs [44]), tEither tExpr (tIs [46]), tEither tExpr (tIs [46]), tStat]) }
  | 52 => { kd := some (tRow [tEither tLeft tOneVar, tExpr, tStat]) }
  | 53 => { st := some (tEither tUnnamed (tName nmd rsv)) }
  | 54 => { st := some (tEither tUnnamed (tName nmd rsv)) }
  | 55 => { kd := some (tEither (tRow []) (tRow [tExpr])) }
  | 56 => { st := some (tName nmd rsv), kd := some (tRow [tStat]) }
  | 57 => { kd := some (tBoth (tFirst tExpr (tIs [58])) tOneDef) }
  | 58 => { fl := some tFree, kd := some (tEither (tBoth tFlag (tEach tStat)) (tBoth (tNot tFlag) (tFirst tExpr tStat))) }
  | 59 => { kd := some (tRow [tExpr]) }
  | 60 => { kd := some (tBoth (tRow [tIs [43], tEither (tIs [61]) (tIs [46]), tEither (tIs [43]) (tIs [46])]) (tNot (tRow [tIs [43], tIs [46], tIs [46]]))) }
  | 61 => { st := some (tName nmd rsv), kd := some (tRow [tIs [43]]) }
  | _ => {}
/-- A test, or what holds where there is none. -/
def prt (o : Option TT) (t : Tn) (z : Bool) : Bool := match o with
  | none => z
  | some p => p t
def hld (s : Shp) (t : Tn) : Bool :=
  prt s.op t t.datum.op.toList.isEmpty && (prt s.st t t.datum.st.toList.isEmpty && (prt s.nm t (t.datum.nm == 0) && (prt s.fl t (!t.datum.fl) && prt s.kd t (t.kids.length == 0))))
end
end Go.Proofs.YtjbofhaiephedaaGreat
