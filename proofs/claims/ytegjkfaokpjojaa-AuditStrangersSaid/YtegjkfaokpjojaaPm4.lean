/-
  Parties: what taking another one's step comes to, and joining. Mathematics; no function is named here.
-/
import Derived.Test.YtegjkfaokpjojaaJ34
import Derived.Test.YtegjkfaokpjojaaPm3
import Derived.Test.YtegjkfaokpjojaaPm5
namespace Go.Proofs.Ytegjkfaokpjojaa
set_option maxRecDepth 100000
open Go.RowKit Pm
set_option linter.unusedVariables false
set_option linter.unusedSimpArgs false

/-- has a node a key? -/
def nodeK (zs : List Int) (m : Nat) : Bool := zs.getD m 0 != 0
/-- the nodes above a leaf -/
abbrev n1 (lf : Int) : Nat := (lf / 2 * 4 + 1).toNat
abbrev n2 (lf : Int) : Nat := (lf / 4 * 8 + 3).toNat
/-- are a commit's new keys keys? -/
def keysB (c : CS) : Bool := isI c.sl && (isI c.p0 && (isI c.p1 && isI c.p2))
/-- the secret of one's leaf's node, or of one above it -/
def secW (p : PS) (node : Int) : List UInt8 := if node = 2 * p.lf then p.sc else abK p.ab (placeI p.lf node).toNat
/-- the one secret in a box -/
def popE (h b : List UInt8) : Int := if openE (scal (nodeW h)) b ≠ 0 then 3 else if b.length - 12 ≠ 32 then 10 else 0
/-- a secret's key is not the tree's -/
def upB (p : PS) (h : List UInt8) (m : Nat) : Bool := powI 4 (scal (nodeW h)) != p.zs.getD m 0
def setAb (p : PS) (q : Nat) (h : List UInt8) : PS := { p with ab := p.ab.take (q * 32) ++ (h ++ p.ab.drop (q * 32 + 32)) }
def climb2R (p : PS) (h : List UInt8) : Bool × List UInt8 × PS := if upB p h 23 = true then (false, zB 32, p) else (true, nextW h, setAb p 2 h)
def climb1R (p : PS) (h : List UInt8) : Bool × List UInt8 × PS := if upB p h (16 + (p.lf / 4 * 8 + 3).toNat) = true then (false, zB 32, p) else climb2R (setAb p 1 h) (nextW h)
def climb0R (p : PS) (h : List UInt8) : Bool × List UInt8 × PS := if upB p h (16 + (p.lf / 2 * 4 + 1).toNat) = true then (false, zB 32, p) else climb1R (setAb p 0 h) (nextW h)
def climbR (p : PS) (h : List UInt8) (k : Nat) : Bool × List UInt8 × PS := if k = 0 then climb0R p h else if k = 1 then climb1R p h else climb2R p h
/-- no secret is kept, below a place, of a node that has no key -/
def forg0 (p : PS) : PS := if nodeK p.zs (16 + n1 p.lf) = true then p else setAb p 0 (zB 32)
def forg1 (p : PS) : PS := if nodeK p.zs (16 + n2 p.lf) = true then p else setAb p 1 (zB 32)
def forgR (p : PS) (k : Nat) : PS := if k = 0 then p else if k = 1 then forg0 p else forg1 (forg0 p)
/-- which of a plan's nodes one is under -/
def findI (l : List (Int × Int)) (lf : Int) : Nat := l.findIdx fun q => underB q.2 lf
/-- a commit's box is opened, and what follows of it: an error, the secret beyond all, who one is then -/
def folR (p : PS) (c : CS) (l : List (Int × Int)) : Int × List UInt8 × PS :=
  if keysB c = false ∨ c.k ≠ l.length ∨ findI l p.lf = l.length then (10, zB 32, p)
  else if popE (secW p (l.getD (findI l p.lf) (0, 0)).2) (c.bx (findI l p.lf)) ≠ 0 then (popE (secW p (l.getD (findI l p.lf) (0, 0)).2) (c.bx (findI l p.lf)), zB 32, p)
  else if (climbR (forgR p (l.getD (findI l p.lf) (0, 0)).1.toNat) (openB (scal (nodeW (secW p (l.getD (findI l p.lf) (0, 0)).2))) (c.bx (findI l p.lf))) (l.getD (findI l p.lf) (0, 0)).1.toNat).1 = true
    then (0, (climbR (forgR p (l.getD (findI l p.lf) (0, 0)).1.toNat) (openB (scal (nodeW (secW p (l.getD (findI l p.lf) (0, 0)).2))) (c.bx (findI l p.lf))) (l.getD (findI l p.lf) (0, 0)).1.toNat).2)
    else (10, zB 32, (climbR (forgR p (l.getD (findI l p.lf) (0, 0)).1.toNat) (openB (scal (nodeW (secW p (l.getD (findI l p.lf) (0, 0)).2))) (c.bx (findI l p.lf))) (l.getD (findI l p.lf) (0, 0)).1.toNat).2.2)
/-- what is wrong with a commit, by what stands on it -/
def accE (p : PS) (c : CS) : Int := if c.e ≠ p.e then 5 else if c.fr = p.lf ∨ memB p.zs c.fr = false then 6 else if verW (p.zs.getD (c.fr.toNat * 2) 0) (bodyB c ++ c.tag) c.sE c.sS = true then 0 else 4
/-- another one's step taken: an error, who one is then -/
def procR (p : PS) (c : CS) : Int × Option PS :=
  if accE p c ≠ 0 then (accE p c, none)
  else if apE p c.fr c.n c.ops c.m c.vs ≠ 0 then (apE p c.fr c.n c.ops c.m c.vs, none)
  else if (doP p c.fr c.n c.ops).gn.getD p.lf.toNat false = true then (0, none)
  else if p.e ≥ 1099511627776 then (12, none)
  else if (folR (behP p (doP p c.fr c.n c.ops) c) c (planL (doP p c.fr c.n c.ops).zs c.fr (doP p c.fr c.n c.ops).ng)).1 ≠ 0
    then ((folR (behP p (doP p c.fr c.n c.ops) c) c (planL (doP p c.fr c.n c.ops).zs c.fr (doP p c.fr c.n c.ops).ng)).1, none)
  else if tagE (reachP (folR (behP p (doP p c.fr c.n c.ops) c) c (planL (doP p c.fr c.n c.ops).zs c.fr (doP p c.fr c.n c.ops).ng)).2.2 (joiW p.ini (folR (behP p (doP p c.fr c.n c.ops) c) c (planL (doP p c.fr c.n c.ops).zs c.fr (doP p c.fr c.n c.ops).ng)).2.1)).ep = c.tag
    then (0, some (reachP (folR (behP p (doP p c.fr c.n c.ops) c) c (planL (doP p c.fr c.n c.ops).zs c.fr (doP p c.fr c.n c.ops).ng)).2.2 (joiW p.ini (folR (behP p (doP p c.fr c.n c.ops) c) c (planL (doP p c.fr c.n c.ops).zs c.fr (doP p c.fr c.n c.ops).ng)).2.1)))
    else (11, none)
/-- a party, or none -/
def optA : Option PS → A
  | none => .v (.pointer none)
  | some q => .sref [.ints .i64 1 [q.e], .ints .i64 31 q.zs, .bools 8 q.ad, .ints .i64 1 [q.k], .bytes 32 q.ch, .ints .i64 1 [q.lf], .bytes 32 q.sg, .bytes 32 q.sc, .bytes 96 q.ab, .bytes 32 q.ep, .bytes 32 q.ini] 0
end Go.Proofs.Ytegjkfaokpjojaa
