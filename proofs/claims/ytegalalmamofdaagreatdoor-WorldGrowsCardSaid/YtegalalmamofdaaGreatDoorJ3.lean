/- -/
import Derived.Test.YtegalalmamofdaaGreatDoorJ2
import Derived.ChangeKeysEq
namespace Go.Proofs.YtegalalmamofdaaGreatDoor
set_option linter.all false
set_option maxRecDepth 100000
open Go.RowKit
variable{v:Value}{t:TypeId}{i:TI}{r off b:Nat}{cs:List Value}{x y:Operand}{l:List Seg}{S:Nat->Prop}{w:World}{ρ:Nat->Option Value}
section
def bM:List Seg->List Seg->Bool
 |[],[]=>true
 | .ints _ _ a::l,.ints _ _ b::m=>decide (a=b)&&bM l m
 | .bytes _ a::l,.bytes _ b::m=>decide (a=b)&&bM l m
 | .bools _ a::l,.bools _ b::m=>decide (a=b)&&bM l m
 |_,_=>false
def sameKind:List Seg->List Seg->Bool
 |[],[]=>true
 | .ints k n _::l,.ints k' n' _::m=>decide (k=k')&&n==n'&&sameKind l m
 | .bytes n _::l,.bytes n' _::m=>n==n'&&sameKind l m
 | .bools n _::l,.bools n' _::m=>n==n'&&sameKind l m
 |_,_=>false
def aR:Value->Option (Option IntKind)| .int k _=>some (some k)| .bool _=>some none|_=>none
def EqT(P:Program)(t:TypeId)(i:TI):Prop:=
 P.eqGuardType P.depth t=false/\∀(w:World) (xs ys:List Value) (z:List Value),tZ i.zero z=true->xs.map aR=z.map aR->ys.map aR=z.map aR->
  ∃b:Bool,(Op.equalIn 10000 t (.agg xs.toArray) (.agg ys.toArray)).run P w=.ok b w/\(b=true↔xs=ys)
def aN(b:Bool)(x y:Prop):Prop:=match b with|true=>x|false=>y
@[congr] theorem bf3 {b b' : Bool} {x y : Prop} (h : b = b') : aN b x y = aN b' x y := by rw [h]
theorem qD(x y:Prop):aN true x y=x:=rfl
theorem oG(x y:Prop):aN false x y=y:=rfl
structure Stop(p:Prop):Prop where
 out:p
structure vE(p:Prop):Prop where
 out:p
structure aX(p:Prop):Prop where
 out:p
structure U3(p:Prop):Prop where
 out:p
structure bd9(p:Prop):Prop where
 out:p
structure ak extends Env where
 fz:Bool:=false
 hE:∀t i,Y t=some i->i.eq=true->EqT P t i
 hM:P.follows .mixedOrders=true
def DK(s:St):List Pt->(List A->Prop)->Prop
 |[],K=>K []
 | .dat (.row n l)::r,K=>DK s r fun rs=>K (.row n l::rs)
 | .dat (.v (.slice none 0 0))::r,K=>DK s r fun rs=>K (.row 0 []::rs)
 | .dat _::_,_=>False
 | .own b n::r,K=>(match s.bk b with|some (.sl _ _ m l)=>n=m/\DK s r fun rs=>K (.row n l::rs)|_=>False)
 | .win b base n::r,K=>(match s.bk b with|some (.var l)=>(match cut l base n with|some m=>base+n<=dM l/\DK s r fun rs=>K (.row n m::rs)|none=>False)|_=>False)
def ba2(l:List Seg)(off n:Nat)(K:List Seg->Prop):Prop:=
 match l with
 |[s]=>off+n<=s.n/\K [s.sub off n]
 |l=>(match cut l off n with|some m=>off+n<=dM l/\K m|none=>False)
def sP(s:St):List T->(List A->Bool->Prop)->Prop
 |[],K=>K [] false
 |t::r,K=>
  match t with
  | .d a=>sP s r fun l b=>K (a::l) b
  | .own b n=>(match s.bk b with|some (.sl _ _ m l)=>n=m/\sP s r fun l' _=>K (.row n l::l') true|_=>False)
  | .pre b n m=>(match s.bk b with|some (.sl _ sz q l)=>m=q/\n<=q/\sz≠0/\ba2 l 0 (n*sz) fun l1=>sP s r fun l' _=>K (.row n l1::l') true|_=>False)
  | .win b base n=>(match s.bk b with|some (.var l)=>(match cut l base n with|some m=>base+n<=dM l/\sP s r fun l' _=>K (.row n m::l') true|none=>False)|_=>False)
  | .rows ps=>DK s ps fun rs=>sP s r fun l' _=>K (.row ps.length [.gen ps.length rs]::l') true
  |_=>False
def iG:bC->Bool
 | .d a=>Ao a
 | .o _ _ _ l=>l.all fun s=>match s with| .gen _ l=>l.all wZ|_=>true
 | .t l=>l.all Ao
 | .p (.var l)=>l.all fun s=>match s with| .gen _ l=>l.all wZ|_=>true
 | .p (.obj _)=>true
 | .p _=>false
 | .ob _=>false
def cg2(fr:Nat)(k:KO):bC->Prop
 | .d a=>k (.d a) none
 | .o e sz n l=>k (.own fr n) (some (fr,.sl e sz n l))
 | .t l=>k (.yE l) none
 | .p x=>k (.ptr fr 0) (some (fr,x))
 | .ob p=>k (.ob fr) (some (fr,.abs p))
def CB(l:List T):Option Nat:=match l.flatMap T.refs with|b::r=>if r.all (fun c=>c==b)=true then some b else none|[]=>none
def Vd(bad:Bool)(ow:Option Nat)(s:St)(fr:Nat)(k:KO)(r:bC):Prop:=
 match bad with
 |false=>cg2 fr k r
 |true=>(match ow with
  |some b=>(match s.bk b with
   |some (.sl _ _ _ _)=>(match r with| .d a=>k (.d a) (some (b,.gone))| .t l=>k (.yE l) (some (b,.gone))|_=>False)
   |_=>False)
  |none=>False)
def Ef:A->Option (List Seg)
 | .agg l=>some l
 | .v (.int k z)=>some [.ints k 1 [z]]
 | .v (.bool b)=>some [.bools 1 [b]]
 |_=>none
def Dm(off:Nat->Option (Nat×Nat))(s:St):List (Nat×Operand)->List Seg->(List Seg->Prop)->Prop
 |[],l,K=>K l
 |(i,x)::r,l,K=>
  match off i,s.ev x with
  |some (o,n),.d a=>n≠0/\wrK l o a n fun l'=>Dm off s r l' K
  |_,_=>False
def wS:List T->Option (Nat×Nat×List T)
 |[]=>none
 |t::r=>match t with
  | .ptr b 0=>some (0,b,r)
  |t=>(match wS r with|some (i,b,l)=>some (i+1,b,t::l)|none=>none)
def av5:List T->Option (Nat×Nat×List T)
 |[]=>none
 |t::r=>match t with
  | .ob b=>some (0,b,r)
  |t=>(match av5 r with|some (i,b,l)=>some (i+1,b,t::l)|none=>none)
abbrev ar5(dF:Bool)(p':OP)(r:bC):Prop:=dF=false
def bF3(fr b:Nat)(p p':OP)(r:bC)(k:KO):Prop:=
 match r with
 | .d a=>k (.d a) (some (b,.abs p'))
 | .t l=>k (.yE l) (some (b,.abs p'))
 | .ob p2=>p'=p/\k (.ob fr) (some (fr,.abs p2))
 |_=>False
def aP2:T->Option FuncId
 | .d (.v (.func (.func f) a b))=>if a.size=0/\b.size=0 then some f else none
 |_=>none
theorem JI{t:T}{f:FuncId}(h:aP2 t=some f):t=.d (.v (.func (.func f) #[] #[])):=by
 unfold aP2 at h
 split at h
 ·split at h
  ·next e=>cases h;rw[Array.size_eq_zero_iff.1 e.1,Array.size_eq_zero_iff.1 e.2]
  ·cases h
 ·cases h
def zo:Bk->Bool
 | .var l=>l.all fun s=>match s with| .gen _ l=>l.all wZ|_=>true
 | .obj _=>true
 |_=>false
def yO(b:Nat)(l:List T):Bool:=l.all fun t=>!t.refs.contains b
def PU(r:bC)(k:KO):Prop:=match r with| .d a=>k (.d a) none| .t l=>k (.yE l) none|_=>False
def evG(G:Nat->Option (List Seg))(s:St)(x:Operand):T:=
 match x with
 | .global q=>(match G q with|some l=>.d (.ref l 0)|none=>.au)
 |x=>s.ev x
def wK:List Pt->Option (List A)
 |[]=>some []
 | .dat (.row n l)::r=>(wK r).map (.row n l::·)
 | .dat (.v (.slice none 0 0))::r=>(wK r).map (.v (.slice none 0 0)::·)
 |_=>none
def Zu(l:List Seg)(off n:Nat)(m:List Seg):Option (List Seg):=
 match loc l off with
 |some (p,.gen k jq,q,i)=>some (p++ .gen k (jq.set i (.row n m))::q)
 |_=>none
def aZ7(s:St):T->(Nat->List Seg->Prop)->Prop
 | .d (.row n l),K=>K n l
 | .own b n,K=>(match s.bk b with|some (.sl _ _ m l)=>n=m/\K n l|_=>False)
 | .win b base n,K=>(match s.bk b with|some (.var l)=>(match cut l base n with|some m=>base+n<=dM l/\K n m|none=>False)|_=>False)
 | .d (.v (.slice none 0 0)),K=>K 0 []
 | .d (.v (.slice (some _) 0 _)),K=>K 0 []
 | .rows ps,K=>(match wK ps with|some l=>K ps.length [.gen ps.length l]|none=>False)
 |_,_=>False
def kT:List Seg->List Seg->List Seg
 |[],m=>m
 |[.ints k n a],[.ints k' m b]=>if k=k' then[.ints k (n+m) (a++b)]else[.ints k n a,.ints k' m b]
 |[.bytes n a],[.bytes m b]=>[.bytes (n+m) (a++b)]
 |[.bools n a],[.bools m b]=>[.bools (n+m) (a++b)]
 |[.gen n a],[.gen m b]=>[.gen (n+m) (a++b)]
 |l,m=>l++m
def qH(m:Nat):List Seg->List Seg
 |[.ints k n a]=>[.ints k (m*n) (List.replicate m a).flatten]
 |[.bytes n a]=>[.bytes (m*n) (List.replicate m a).flatten]
 |[.bools n a]=>[.bools (m*n) (List.replicate m a).flatten]
 |[.gen n a]=>[.gen (m*n) (List.replicate m a).flatten]
 |l=>(List.replicate m l).flatten
def TR(s:St):T->Option Pt
 | .d (.row n l)=>some (.dat (.row n l))
 | .d (.v (.slice none 0 0))=>some (.dat (.v (.slice none 0 0)))
 | .own b n=>(match s.bk b with|some (.sl _ _ m _)=>if n=m then some (.own b n)else none|_=>none)
 | .win b base n=>some (.win b base n)
 |_=>none
def vL(s:St):List (Nat×Operand)->Nat->Option (List Pt)
 |[],_=>some []
 |(i,x)::r,k=>if i=k then(match TR s (s.ev x),vL s r (k+1)with|some p,some l=>some (p::l)|_,_=>none)else none
def strOf:List Seg->Option ByteArray
 |[]=>some ByteArray.empty
 |[.bytes _ bs]=>some ⟨bs.toArray⟩
 |_=>none
def Nf(m:Nat)(l:List Seg):List Seg:=qH m l
def ab5(s:St)(x:Option Operand)(d:Nat)(K:Nat->Prop):Prop:=
 match x with
 |none=>K d
 |some y=>(match s.ev y with| .d (.v (.int .i64 z))=>0<=z/\K z.toNat|_=>False)
def opA (E : ak) (o : Oper) (s : St) (fr : Nat) (k : KO) : Prop :=
  match o.op with
  | .move x | .assign x => k (s.ev x) none
  | .pick c a b =>
    (match s.ev c with
     | .d (.v (.bool t)) => vE (aN t (k (s.ev a) none) (k (s.ev b) none))
     | _ => False)
  | .binOp op t x y _ =>
    (match s.ev x, s.ev y with
     | .d (.v p), .d (.v q) =>
       (match p, q with
        | .bool a, .bool b => (∃ i, E.Y t = some i /\ E.P.underlying t = some .bool) /\ (match op with | .eql => k (.d (.v (.bool (a == b)))) none | .neq => k (.d (.v (.bool (!(a == b))))) none | _ => False)
        | .string a, .string b => E.P.underlying t = some .string /\ (match op with | .eql => k (.d (.v (.bool (a.toList == b.toList)))) none | .neq => k (.d (.v (.bool (!(a.toList == b.toList))))) none | .add => a.size + b.size <= 281474976710656 /\ k (.d (.v (.string (a ++ b)))) none | _ => False)
        | .pointer none, .pointer none => E.P.underlying t = some (.pointer (E.P.pointee t)) /\ (match op with | .eql => k (.d (.v (.bool true))) none | .neq => k (.d (.v (.bool false))) none | _ => False)
        | .slice ad _ _, .slice none _ _ => E.P.underlying t = some (.slice (E.P.elem t)) /\ (match op with | .eql => k (.d (.v (.bool ad.isNone))) none | .neq => k (.d (.v (.bool (!ad.isNone)))) none | _ => False)
        | p, q => aL6 op (.v p) (.v q) fun r => k (.d r) none)
     | .ptr _ _, .d (.v (.pointer none)) => E.P.underlying t = some (.pointer (E.P.pointee t)) /\ (match op with | .eql => k (.d (.v (.bool false))) none | .neq => k (.d (.v (.bool true))) none | _ => False)
     | .ob _, .d (.v (.pointer none)) => E.P.underlying t = some (.pointer (E.P.pointee t)) /\ (match op with | .eql => k (.d (.v (.bool false))) none | .neq => k (.d (.v (.bool true))) none | _ => False)
     | .d (.row n _), .d (.v (.slice none _ _)) => n ≠ 0 /\ E.P.underlying t = some (.slice (E.P.elem t)) /\ (match op with | .eql => k (.d (.v (.bool false))) none | .neq => k (.d (.v (.bool true))) none | _ => False)
     | .d (.sref _ _), .d (.v (.pointer none)) => E.P.underlying t = some (.pointer (E.P.pointee t)) /\ (match op with | .eql => k (.d (.v (.bool false))) none | .neq => k (.d (.v (.bool true))) none | _ => False)
     | .d (.agg l), .d (.agg m) =>
       (match E.Y t with
        | some i => i.eq = true /\ sameKind l i.zero = true /\ sameKind m i.zero = true /\ (match op with | .eql => k (.d (.v (.bool (bM l m)))) none | .neq => k (.d (.v (.bool (!bM l m)))) none | _ => False)
        | none => False)
     | _, _ => False)
  | .unOp op _ x => (match op, s.ev x with | .not, .d (.v (.bool b)) => k (.d (.v (.bool (!b)))) none | .neg, .d (.v (.int q z)) => k (.d (.v (.int q (q.wrap (0 - z))))) none | _, _ => False)
  | .alloc e => (match E.Y e with | some i => k (.ptr fr 0) (some (fr, .var i.zero)) | none => False)
  | .box e x => (match s.ev x with | .d a => (match Ef a with | some l => k (.ptr fr 0) (some (fr, .var l)) | none => False) | .ptr 0 0 => (match s.bk 0 with | some (.var _) => k (.NC fr 0) (some (fr, .bx)) | _ => False) | _ => False)
  | .load t x =>
    (match E.Y t with
     | none => False
     | some i => (match evG E.G s x with
       | .ptr b base => (match s.bk b with
         | some (.var l) => rdK l i.agg i.sz base fun a => k (.d a) none
         | some (.vh l off true e sz n m) => (match base == off && i.sl with
           | true => base = off /\ i.sl = true /\ k (.hsl b n) none
           | false => (match Zu l off n m with | some l' => rdK l' i.agg i.sz base fun a => k (.d a) (some (b, .var l')) | none => False))
         | _ => False)
       | .xg b base rel => (match s.bk b with | some (.var l) => Y2 l i.agg i.sz base rel fun a => k (.d a) none | _ => False)
       | .BX b n off => (match s.bk b with | some (.sl _ _ m l) => n = m /\ Y2 l i.agg i.sz 0 off fun a => k (.d a) none | _ => False)
       | .d (.ref l off) => (i.agg = true -> i.sz ≠ 0) /\ Y2 l i.agg i.sz 0 off fun a => k (.d a) none
       | .d (.sref l off) => (i.agg = true -> i.sz ≠ 0) /\ rdK l i.agg i.sz off fun a => k (.d a) none
       | .NC b 0 => (match s.bk b with | some .bx => i.sz = 1 /\ i.agg = false /\ k (.ptr 0 0) none | _ => False)
       | _ => False))
  | .store t x y =>
    (match E.Y t with
     | none => False
     | some i => (match s.ev x, s.ev y with
       | .ptr b base, .d a => (match s.bk b with
         | some (.var l) => wrK l base a i.sz fun l' => k (.d (.v undef)) (some (b, .var l'))
         | some (.vh l off true e sz n m) => (match Zu l off n m with | some l1 => wrK l1 base a i.sz fun l' => k (.d (.v undef)) (some (b, .var l')) | none => False)
         | _ => False)
       | .ptr b base, .hsl b' n' => (match s.bk b with
         | some (.vh l off p e sz n m) => b' = b /\ base = off /\ n' = n /\ i.sz = 1 /\ k (.d (.v undef)) (some (b, .vh l off true e sz n m))
         | _ => False)
       | .xg b base rel, .d a => (match s.bk b with | some (.var l) => bd5 l base rel a i.sz fun l' => k (.d (.v undef)) (some (b, .var l')) | _ => False)
       | .BX b n off, .d a => (match s.bk b with | some (.sl e sz m l) => n = m /\ n * sz = dM l /\ i.sz ≠ 0 /\ bd5 l 0 off a i.sz fun l' => k (.d (.v undef)) (some (b, .sl e sz m l')) | _ => False)
       | _, _ => False))
  | .fieldAddr t x f =>
    (match E.Y t with
     | none => False
     | some i => (match i.QN[f]? with
       | none => False
       | some off => (match s.ev x with
         | .ptr b base => k (.ptr b (base + off)) none
         | .xg b base rel => k (.xg b base (rel + off)) none
         | .BX b n o => (match s.bk b with | some (.sl _ _ m _) => n = m /\ k (.BX b n (o + off)) none | _ => False)
         | .d (.ref l o) => k (.d (.ref l (o + off))) none
         | .d (.sref l o) => k (.d (.sref l (o + off))) none
         | _ => False)))
  | .indexAddr t x ix =>
    (match E.Y t with
     | none => False
     | some i => i.bY ≠ 0 /\ (match s.ev ix with
       | .d (.v (.int _ z)) => (match evG E.G s x with
         | .ptr b base => i.len ≠ 0 /\ 0 <= z /\ z < (i.len : Int) /\ k (.xg b base (z.toNat * i.bY)) none
         | .xg b base rel => i.len ≠ 0 /\ 0 <= z /\ z < (i.len : Int) /\ k (.xg b base (rel + z.toNat * i.bY)) none
         | .d (.ref l off) => i.len ≠ 0 /\ 0 <= z /\ z < (i.len : Int) /\ k (.d (.ref l (off + z.toNat * i.bY))) none
         | .d (.sref l off) => i.len ≠ 0 /\ 0 <= z /\ z < (i.len : Int) /\ (match loc l off with | some (_, sg, _, rel) => k (.d (.ref [sg] (rel + z.toNat * i.bY))) none | none => False)
         | .d (.row n l) => i.sl = true /\ 0 <= z /\ z < (n : Int) /\ n * i.bY = dM l /\ k (.d (.ref l (z.toNat * i.bY))) none
         | .d (.recs n sz f) => i.sl = true /\ 0 <= z /\ z < (n : Int) /\ sz = i.bY /\ k (.d (.sref (f z.toNat) 0)) none
         | .BX b n off => (match s.bk b with | some (.sl _ _ m _) => n = m /\ i.len ≠ 0 /\ 0 <= z /\ z < (i.len : Int) /\ k (.BX b n (off + z.toNat * i.bY)) none | _ => False)
         | .own b n => (match s.bk b with | some (.sl e sz m l) => i.sl = true /\ 0 <= z /\ z < (n : Int) /\ n = m /\ n * i.bY = dM l /\ k (.BX b n (z.toNat * i.bY)) none | _ => False)
         | .win b base n => i.sl = true /\ 0 <= z /\ z < (n : Int) /\ k (.xg b base (z.toNat * i.bY)) none
         | _ => False)
       | _ => False))
  | .index t x ix =>
    (match E.Y t with
     | none => False
     | some i => i.bY ≠ 0 /\ i.len ≠ 0 /\ (match s.ev x, s.ev ix, E.Y i.elem with
       | .d (.agg l), .d (.v (.int _ z)), some j => 0 <= z /\ z < (i.len : Int) /\ Y2 l j.agg i.bY 0 (z.toNat * i.bY) fun a => k (.d a) none
       | _, _, _ => False))
  | .field t x f =>
    (match E.Y t with
     | none => False
     | some i => (match i.QN[f]?, i.fty[f]?, s.ev x with
       | some off, some ft, .d (.agg l) => (match E.Y ft with | some j => rdK l j.agg j.sz off fun a => k (.d a) none | none => False)
       | _, _, _ => False))
  | .build t parts =>
    (match E.Y t with
     | none => False
     | some i => i.agg = true /\ (i.bY ≠ 0 -> i.len ≠ 0) /\ Dm (fun f => if i.bY = 0 then i.Ko[f]? else some (f * i.bY, i.bY)) s parts.toList i.zero fun l => k (.d (.agg l)) none)
  | .convert src dst x =>
    (match E.Y src, E.Y dst, s.ev x with
     | some _, some i, .d (.v (.int _ z)) => (match i.knd with | some q => k (.d (.v (.int q (q.wrap z)))) none | none => False)
     | some _, some i, .d (.v (.string b)) => i.sl = true /\ E.P.underlying src = some .string /\ E.P.underlying i.elem = some (.int .u8) /\ b.size <= 1000000000 /\ k (.d (.row b.size [.bytes b.size b.data.toList])) none
     | some i, some _, y => i.sl = true /\ E.P.underlying i.elem = some (.int .u8) /\ E.P.underlying dst = some .string /\ sP s [y] fun l _ => (match l with
       | [.row m news] => (match strOf news with | some b => b.size = m /\ m <= 140737488355328 /\ k (.d (.v (.string b))) none | none => False)
       | [.v (.slice none 0 0)] => k (.d (.v (.string .empty))) none
       | _ => False)
     | _, _, _ => False)
  | .slice t x lo hi mx =>
    (match E.Y t, s.ev x, lo, hi, mx with
     | some i, .ptr b base, none, none, none => i.len ≠ 0 /\ i.bY = 1 /\ i.len <= 1000000 /\ k (.win b base i.len) none
     | some i, .ptr b base, none, some y, none => i.len ≠ 0 /\ i.bY = 1 /\ i.len <= 1000000 /\ (match s.ev y with | .d (.v (.int .i64 z)) => 0 <= z /\ z.toNat <= i.len /\ k (.win b base z.toNat) none | _ => False)
     | some i, .xg b base rel, none, none, none => i.len ≠ 0 /\ i.bY = 1 /\ i.len <= 1000000 /\ k (.win b (base + rel) i.len) none
     | some i, .d (.row n l), lo, hi, none => i.sl = true /\ i.bY ≠ 0 /\ ab5 s lo 0 fun a => ab5 s hi n fun b => a <= b /\ b <= n /\ ba2 l (a * i.bY) ((b - a) * i.bY) fun m => k (.d (.row (b - a) m)) none
     | some i, .own b n, none, hi, none => i.sl = true /\ i.bY ≠ 0 /\ (match s.bk b with | some (.sl _ _ q l) => n = q /\ ab5 s hi n fun c => c <= n /\ k (.pre b c n) none | _ => False)
     | _, _, _, _, _ => False)
  | .call c =>
    (match c.callee with
     | .value x => (match aP2 (s.ev x) with
       | some f =>
         (match wS (c.args.toList.map s.ev) with
          | none => (match av5 (c.args.toList.map s.ev) with
            | none => sP s (c.args.toList.map s.ev) fun l dF => E.C f l fun r => Vd (dF && !(iG r || E.fr f)) (CB (c.args.toList.map s.ev)) s fr k r
            | some (pos, b, rest) => (match s.bk b with
              | some (.abs p) => yO b rest = true /\ sP s rest fun l dF => E.B f pos p l fun r p' => ar5 dF p' r /\ bF3 fr b p p' r k
              | _ => False))
          | some (pos, b, rest) => (match s.bk b with
            | some (.obj p) => yO b rest = true /\ sP s rest fun l dF => E.M f pos (.obj p) l fun r x' => x' = .obj p /\ (dF = true -> iG r = true) /\ PU r k
            | some (.var l0) => yO b rest = true /\ sP s rest fun l dF => E.M f pos (.var l0) l fun r x' => (dF = true -> iG r = true) /\ (dF = true -> zo x' = true) /\ PU r fun t _ => k t (some (b, x'))
            | _ => False))
       | none => (match s.ev x with
         | .d (.NM f cs) => sP s (c.args.toList.map s.ev) fun l _ => E.C f (l ++ cs) fun r => (match r with | .d a => Ao a = true /\ k (.d a) none | _ => False)
         | _ => False))
     | .builtin .append =>
       (match c.args.toList, c.argTypes.toList with
        | [x, y], [t, t'] => t = t' /\ (match E.Y t with
          | some i => i.sl = true /\ i.bY ≠ 0 /\ (match E.Y i.elem with
            | some j => j.bytes ≠ 0 /\ dM j.zero = i.bY /\ aZ7 s (s.ev y) fun m news => dM news = m * i.bY /\ (match s.ev x with
              | .own b n => (match s.bk b with
                | some (.sl e sz q l) => n = q /\ e = i.elem /\ sz = i.bY /\ (n + m) * j.bytes <= 140737488355328 /\ k (.own b (n + m)) (some (b, .sl e sz (n + m) (kT l news)))
                | _ => False)
              | .hsl b n => (match s.bk b with
                | some (.vh l off p e sz q m0) => n = q /\ e = i.elem /\ sz = i.bY /\ (n + m) * j.bytes <= 140737488355328 /\ k (.hsl b (n + m)) (some (b, .vh l off false e sz (n + m) (kT m0 news)))
                | _ => False)
              | .d (.v (.slice none 0 0)) => m * j.bytes <= 140737488355328 /\ k (.own fr m) (some (fr, .sl i.elem i.bY m news))
              | _ => False)
            | none => False)
          | none => False)
        | _, _ => False)
     | .builtin .copy =>
       (match c.args.toList, c.argTypes.toList with
        | [x, y], [t, _] => (match E.Y t with
          | some i => i.sl = true /\ i.bY = 1 /\ aZ7 s (s.ev y) fun m news => dM news = m /\ (match s.ev x with
            | .win b base n => (match s.bk b with
              | some (.var l) => m <= n /\ wrK l base (.agg news) m fun l' => k (.d (.v (.int .i64 m))) (some (b, .var l'))
              | _ => False)
            | _ => False)
          | none => False)
        | _, _ => False)
     | .builtin .min =>
       (match c.args.toList.map s.ev with
        | [.d (.v (.int q x)), .d (.v (.int _ y))] => k (.d (.v (.int q (if y < x then y else x)))) none
        | _ => False)
     | .builtin .max =>
       (match c.args.toList.map s.ev with
        | [.d (.v (.int q x)), .d (.v (.int _ y))] => k (.d (.v (.int q (if y > x then y else x)))) none
        | _ => False)
     | .builtin .len =>
       (match c.args.toList, c.argTypes.toList with
        | [x], [t] => (match s.ev x with
         | .d (.v (.string b)) => E.P.underlying t = some .string /\ k (.d (.v (.int .i64 b.size))) none
         | y => (match E.Y t with
          | some i => i.sl = true /\ (match y with
            | .d (.row n _) => k (.d (.v (.int .i64 n))) none
            | .d (.recs n _ _) => k (.d (.v (.int .i64 n))) none
            | .own b n => (match s.bk b with | some (.sl _ _ m _) => n = m /\ k (.d (.v (.int .i64 n))) none | _ => False)
            | .win _ _ n => k (.d (.v (.int .i64 n))) none
            | .d (.v (.slice none 0 0)) => k (.d (.v (.int .i64 0))) none
            | .d (.v (.slice (some _) n _)) => k (.d (.v (.int .i64 n))) none
            | _ => False)
          | none => False))
        | _, _ => False)
     | _ => False)
  | .extract x i => (match s.ev x with | .yE l => (match l[i]? with | some a => k (.d a) none | none => False) | _ => False)
  | .nilCheck x => (match s.ev x with | .ptr b base => k (.ptr b base) none | .xg b base rel => k (.xg b base rel) none | .d (.ref l q) => k (.d (.ref l q)) none | .d (.sref l q) => k (.d (.sref l q)) none | _ => False)
  | .makeSlice t x y =>
    (match E.Y t, s.ev x, s.ev y with
     | some i, .d (.v (.int _ n)), .d (.v (.int _ c)) => i.sl = true /\ i.bY ≠ 0 /\ n = c /\ 0 <= n /\ n.toNat * i.bY <= 16777216 /\ (match E.Y i.elem with
       | some j => dM j.zero = i.bY /\ j.bytes * n.toNat <= 281474976710656 /\ (match E.fz with | true => k (.d (.row n.toNat (Nf n.toNat j.zero))) none | false => k (.own fr n.toNat) (some (fr, .sl i.elem i.bY n.toNat (Nf n.toNat j.zero))))
       | none => False)
     | _, _, _ => False)
  | .buildSlice t len parts =>
    (match E.Y t with
     | none => False
     | some i => i.sl = true /\ i.bY ≠ 0 /\ (match len with
      | 0 => parts.toList = [] /\ (match E.Y i.elem with | some j => k (.own fr 0) (some (fr, .sl i.elem i.bY 0 (qH 0 j.zero))) | none => False)
      | _ + 1 => len ≠ 0 /\ len * i.bY <= 16777216 /\ (match E.Y i.elem with
       | some j => (match j.sl with
         | true => i.bY = 1 /\ (match vL s parts.toList 0 with | some ps => ps.length = len /\ dM j.zero = 1 /\ (match E.fz with | true => (match wK ps with | some l => k (.d (.row len [.gen len l])) none | none => False) | false => k (.rows ps) none) | none => False)
         | false => dM j.zero = i.bY /\ Dm (fun f => some (f * i.bY, i.bY)) s parts.toList (qH len j.zero) fun l => (match E.fz with | true => k (.d (.row len l)) none | false => k (.own fr len) (some (fr, .sl i.elem i.bY len l))))
       | none => False)))
  | .sliceToArrayPointer t x => (match E.Y t, s.ev x with | some i, .d (.row n l) => i.len ≠ 0 /\ i.len <= n /\ dM l ≠ 0 /\ k (.d (.sref l 0)) none | _, _ => False)
  | _ => False
end
section
def St.app(s:St)(dst:Option Nat)(t:T)(blk:Option (Nat×Bk)):St:=
 ⟨match dst with|some d=>s.t.set d t|none=>s.t,match blk with|some (b,x)=>s.h.set b (some x)|none=>s.h⟩
section
variable {S : Nat -> Prop} {base : Nat} {G : Nat -> Option (List Seg)} {w0 : W0 G} {s : St} {ρ : Nat -> Option Value} {a : Act} {w : World} {P : Program}
theorem Good.ev(g:Good S base w0 s ρ a w)(x:Operand):RT (Dt S base ρ) ρ w (s.ev x) (a.eval x):=by
 cases x with
 |tmp i=>
  by_cases hi:i<a.tmps.size
  ·exact g.t i hi
  ·have:s.ev (.tmp i)=.au:=by
    show s.t.getD i .au=.au
    rw[List.getD_eq_getElem?_getD,List.getElem?_eq_none (by rw[g.len];exact Nat.le_of_not_lt hi)];rfl
   rw[this];trivial
 |const v=>exact .v v
 |func f=>exact .v _
 |global g=>trivial
theorem Good.nP(g:Good S base w0 s ρ a w)(x:Operand):∀b∈(s.ev x).refs,s.bk b≠none:=by
 cases x with
 |tmp i=>exact g.ru i
 |const v=>intro b hb;simp[St.ev,T.refs]at hb
 |func f=>intro b hb;simp[St.ev,T.refs]at hb
 |global g=>intro b hb;simp[St.ev,T.refs]at hb
theorem aX1{o:Oper}{K:Act->World->Prop}{Q:Exit->Act->World->Prop}(g:Good S base w0 s ρ a w){t:T}(hr:(execOp a.eval o).run P w=.ok (.value v) w)
  (ht:RT (Dt S base ρ) ρ w t v)(hrefs:∀b∈t.refs,s.bk b≠none)(hK:∀a' w' ρ',Good S base w0 (s.app o.dst t none) ρ' a' w'->K a' w'):o.wp P a w K Q:=by
 unfold Oper.wp
 rw[hr]
 exact hK _ _ ρ (g.put' o.dst ht hrefs)
theorem lN(hY:D7 P t i)(ha:i.agg=true)(hl:cs.length=i.sz)(hc:∀j (h:j<cs.length),w.cell? ⟨r,off+j,none⟩=some cs[j]):
  (loadVar t ⟨r,off,none⟩).run P w=.ok (.agg cs.toArray) w:=by
 obtain⟨f,z,hf,hs,_⟩:=hY.info
 obtain⟨d,hd⟩:=hY.und
 have hag:(isAgg t).run P w=.ok true w:=by
  have h1:=hY.agg
  unfold lu at h1
  rw[hd,ha]at h1
  unfold isAgg
  rw[Sem.run_bind,run_underlying hd w]
  cases d<;>simp_all
 have hl2:=run_loadCells_list (P:=P) w ⟨r,off,none⟩ cs (fun j v hj=>by
  have hadd:(⟨r,off,none⟩:Addr).add j=⟨r,off+j,none⟩:=by unfold Addr.add;split<;>simp_all
  have hlt:=(List.getElem?_eq_some_iff.1 hj).1
  rw[hadd,hc j hlt,<-hj,List.getElem?_eq_getElem hlt])
 simp only[loadVar,Sem.run_bind,hag,Result.andThen_ok,if_true,run_sizeOf w hf]
 rw[show P.cellsOf t=cs.length by simp[Program.cellsOf,hf,hs,hl],hl2]
 simp
theorem vP(hY:D7 P t i)(ha:i.agg=false)(hc:w.cell? ⟨r,off,none⟩=some v):
  (loadVar t ⟨r,off,none⟩).run P w=.ok v w:=by
 obtain⟨d,hd⟩:=hY.und
 have hag:(isAgg t).run P w=.ok false w:=by
  have h1:=hY.agg
  unfold lu at h1
  rw[hd,ha]at h1
  unfold isAgg
  rw[Sem.run_bind,run_underlying hd w]
  cases d<;>simp_all
 simp only[loadVar,Sem.run_bind,hag,Result.andThen_ok,Bool.false_eq_true,if_false]
 simp[load,Sem.run,hc]
theorem fU{fr:Nat×Nat}(h:w.heap[r]?=some (.cells cs.toArray t fr))(j:Nat):w.cell? ⟨r,j,none⟩=cs[j]?:=by
 rw[cell_of_row w r j _ t fr h];simp
theorem gV(hY:D7 P t i){D:Nat->Prop}{r o off:Nat}{x:A}(hc:∀j (h:j<cs.length),w.cell? ⟨r,o+j,none⟩=some cs[j])
  (hx:(i.agg=true->off+i.sz<=cs.length/\RA D w x (.agg ((cs.drop off).take i.sz).toArray))/\(i.agg=false->∃v,cs[off]?=some v/\RA D w x v/\v.oneCell'=true)):
  ∃v,(loadVar t ⟨r,o+off,none⟩).run P w=.ok v w/\RA D w x v:=by
 cases ha:i.agg with
 |true=>
  obtain⟨h1,h2⟩:=hx.1 ha
  refine⟨_,lN hY ha (cs:=(cs.drop off).take i.sz) (by simp;omega) (fun j hj=>?_),h2⟩
  have hj':j<i.sz:=by simp at hj;omega
  rw[Nat.add_assoc,hc (off+j) (by omega)]
  simp
 |false=>
  obtain⟨v,h1,h2,h3⟩:=hx.2 ha
  obtain⟨h4,h5⟩:=List.getElem?_eq_some_iff.1 h1
  exact⟨v,vP hY ha (by rw[hc off h4,h5]),h2⟩
theorem gq{o:Oper}(ho:o.op=.load t x)(hx:a.eval x=.pointer (some ⟨r,off,none⟩))(hr:(loadVar t ⟨r,off,none⟩).run P w=.ok v w):
  (execOp a.eval o).run P w=.ok (.value v) w:=by
 simp[execOp,ho,hx,Instr.loadAt,Instr.sureAddr,Sem.run_bind,hr]
theorem Good.var(g:Good S base w0 s ρ a w)(h:s.bk b=some (.var l)):
  ∃r cs t,ρ b=some (.pointer (some ⟨r,0,none⟩))/\True/\w.heap[r]?=some (.cells (List.toArray cs) t (0,0))/\RL (Dt S base ρ) w l cs:=by
 have:=g.b b;rw[h]at this;exact this
theorem Good.slc(g:Good S base w0 s ρ a w){e:TypeId}{sz n:Nat}(h:s.bk b=some (.sl e sz n l)):
  ∃u cs,ρ b=some u/\w.ownsRow base e sz u n cs/\RL (Dt S base ρ) w l cs:=by
 have:=g.b b;rw[h]at this;exact this
theorem Good.alloc(g:Good S base w0 s ρ a w){fr:Nat}(hfr:s.bk fr=none)(hlt:fr<s.h.length){ty:TypeId}
  (hl:∀D' w',Keeps (Dt S base ρ) w D' w'->RL D' w' l cs):
  Good S base w0 ⟨s.t,s.h.set fr (some (.var l))⟩ (upd ρ fr (some (.pointer (some ⟨w.heap.size,0,none⟩)))) a (w.alloc (.cells cs.toArray ty)):=by
 have hρ:ρ fr=none:=by have:=g.b fr;rw[hfr]at this;exact this
 refine g.change fr hlt _ _ none ⟨rfl,rfl,rfl,by rw[size_alloc];omega,fun k hk _=>Below.heap_alloc _ _ _ hk⟩ (by simp) ?_ ?_ ?_ (fun q hq=>by rw[hρ]at hq;cases hq)
 ·intro r hr
  simp[Rl]at hr;subst hr
  exact⟨.inl (Nat.le_refl _),by rw[size_alloc];omega⟩
 ·intro K
  exact⟨w.heap.size,cs,ty,by simp[upd],trivial,heap_alloc_new _ _,hl _ _ K⟩
 ·intro _ i hi hm
  exact absurd hfr (g.ru i fr hm)
theorem Good.store(g:Good S base w0 s ρ a w){l l':List Seg}(h:s.bk b=some (.var l)){cs vs:List Value}(hρ:ρ b=some (.pointer (some ⟨r,0,none⟩)))
  (hw:w.heap[r]?=some (.cells cs.toArray t (0,0)))(hl:RL (Dt S base ρ) w l' (cs.take off++(vs++cs.drop (off+vs.length)))):
  Good S base w0 ⟨s.t,s.h.set b (some (.var l'))⟩ ρ a (w.setRow r (cs.take off++(vs++cs.drop (off+vs.length))).toArray):=by
 have hlt:b<s.h.length:=by
  apply Decidable.byContradiction
  intro hn
  unfold St.bk at h
  rw[List.getD_eq_getElem?_getD,List.getElem?_eq_none (by omega)]at h
  cases h
 have hu:upd ρ b (some (.pointer (some ⟨r,0,none⟩)))=ρ:=by
  funext i;unfold upd;split
  ·next e=>rw[e,hρ]
  ·rfl
 have:=g.change b hlt (.pointer (some ⟨r,0,none⟩)) (.var l') (some r) (w':=w.setRow r (cs.take off++(vs++cs.drop (off+vs.length))).toArray)
  (kN (bH w _) _ (.inr rfl)) (by intro r' e;cases e;exact⟨_,hρ,rfl⟩) (by
   intro r' e
   simp[Rl]at e;subst e
   exact⟨.inr ⟨_,hρ,rfl⟩,by rw[size_setRow];exact(g.low b _ r hρ rfl).2⟩) (by
   rw[hu]
   intro K
   refine⟨r,_,t,hρ,trivial,setRow_heap _ _ _ _ _ _ hw,hl.up K⟩) (by
   rw[hu]
   intro _ i hi hm
   refine(g.t i hi).up ⟨by rw[size_setRow];exact Nat.le_refl _,fun r' hr' hd=>⟨hd,fun o=>?_⟩⟩ (fun _ _=>rfl)
   exact World.cell?_of_block (setRow_other _ _ _ _ (fun e=>hd.2 b _ hρ (by simp[Rl];exact e.symm)))) (fun q hq=>by rw[hρ]at hq;cases hq;rfl)
 rwa [hu]at this
theorem sQ{s:St}{x:Bk}(h:s.bk b=some x):b<s.h.length:=by
 apply Decidable.byContradiction
 intro hn
 unfold St.bk at h
 rw[List.getD_eq_getElem?_getD,List.getElem?_eq_none (by omega)]at h
 cases h
theorem pE(hY:D7 P t i)(hs:v.cells.size=i.sz)(h1:∀u∈v.cells.toList,u.oneCell'=true){ty:TypeId}
  (hw:w.heap[r]?=some (.cells cs.toArray ty (0,0)))(hl:off+i.sz<=cs.length\/i.sz=0):
  (storeVar t ⟨r,off,none⟩ v).run P w=.ok () (w.setRow r (cs.take off++(v.cells.toList++cs.drop (off+v.cells.toList.length))).toArray):=by
 obtain⟨f,z,hf,hs2,_⟩:=hY.info
 have hsz:P.cellsOf t=v.cells.size:=by simp[Program.cellsOf,hf,hs2,hs]
 simp only[storeVar,Sem.run_bind,run_sizeOf w hf,Result.andThen_ok,hsz]
 simp only[ne_eq,not_true_eq_false,if_false,Sem.run_pure,Result.andThen_ok]
 rcases hl with hl|hl
 ·have:=run_storeCells_at (P:=P) r off ty v.cells.toList 0 cs.toArray w hw (by simp;omega) h1
  rw[this]
  simp
 ·have hn:v.cells.toList=[]:=by
   have:v.cells.toList.length=0:=by rw[Array.length_toList,hs,hl]
   exact List.length_eq_zero_iff.1 this
  rw[hn]
  simp only[storeCells,Sem.run_pure,List.nil_append,List.length_nil,Nat.add_zero,List.take_append_drop]
  rw[setRow_self w r _ ty (0,0) hw]
end
end
section
def seen(o:Oper)(t:T):List Nat:=
 match o.op,t with
 | .move _,_=>[]
 | .assign _,_=>[]
 | .fieldAddr _ _ _,.ptr _ _=>[]
 | .fieldAddr _ _ _,.xg _ _ _=>[]
 | .indexAddr _ _ _,.ptr _ _=>[]
 | .indexAddr _ _ _,.xg _ _ _=>[]
 | .nilCheck _,.ptr _ _=>[]
 | .nilCheck _,.xg _ _ _=>[]
 |_,t=>t.refs
def Same(o:Oper)(s s':St):Prop:=∀x∈o.op.operands,s'.ev x=s.ev x/\∀b∈seen o (s.ev x),s'.bk b=s.bk b
def looks(o:Oper):Bool:=match o.op with| .move _| .assign _| .fieldAddr _ _ _| .indexAddr _ _ _| .nilCheck _=>false|_=>true
theorem aC9{o:Oper}(h:looks o=true)(t:T):seen o t=t.refs:=by
 unfold looks at h
 unfold seen
 split at h
 ·cases h
 ·cases h
 ·cases h
 ·cases h
 ·cases h
 ·next h1 h2 h3 h4 h5=>
  split
  ·next e=>exact(h1 _ e).elim
  ·next e=>exact(h2 _ e).elim
  ·next e=>exact(h3 _ _ _ e).elim
  ·next e=>exact(h3 _ _ _ e).elim
  ·next e=>exact(h4 _ _ _ e).elim
  ·next e=>exact(h4 _ _ _ e).elim
  ·next e=>exact(h5 _ e).elim
  ·next e=>exact(h5 _ e).elim
  ·rfl
theorem Same.bk{o:Oper}{s s':St}(hs:Same o s s')(hx:x∈o.op.operands)(hl:looks o=true)(hb:b∈(s.ev x).refs):s'.bk b=s.bk b:=(hs x hx).2 b (by rw[aC9 hl];exact hb)
def cO(E:ak)(o:Oper)(s:St)(fr:Nat)(t:T)(blk:Option (Nat×Bk)):Prop:=
 (∀b∈t.refs,b=fr/\(∃x,blk=some (fr,x))\/∃x∈o.op.operands,b∈(s.ev x).refs)/\
 (∀b x,blk=some (b,x)->b=fr\/∃x∈o.op.operands,b∈(s.ev x).refs)/\
 ∀(S:Nat->Prop) (base:Nat) (w0:W0 E.G) (s':St) (ρ:Nat->Option Value) (a:Act) (w:World) (K:Act->World->Prop) (Q:Exit->Act->World->Prop),
  Same o s s'->Good S base w0 s' ρ a w->s'.bk fr=none->fr<s'.h.length->(∀a' w' ρ',Good S base w0 (s'.app o.dst t blk) ρ' a' w'->K a' w')->o.wp E.P a w K Q
theorem RA.plain{x v:Value}(h:RA S w (.v x) v):v=x:=by cases h;rfl
section
variable {E : ak} {o : Oper} {s : St} {fr : Nat}
theorem cO.pure{t:T}(hrefs:∀b∈t.refs,∃x∈o.op.operands,b∈(s.ev x).refs)
  (h:∀(S:Nat->Prop) (base:Nat) (w0:W0 E.G) (s':St) (ρ:Nat->Option Value) (a:Act) (w:World),Same o s s'->Good S base w0 s' ρ a w->∃v,(execOp a.eval o).run E.P w=.ok (.value v) w/\RT (Dt S base ρ) ρ w t v):
  cO E o s fr t none:=by
 refine⟨fun b hb=>.inr (hrefs b hb),fun b x e=>(by cases e),fun S base w0 s' ρ a w K Q hs g _ _ hK=>?_⟩
 obtain⟨v,h1,h2⟩:=h S base w0 s' ρ a w hs g
 refine aX1 g h1 h2 (fun b hb=>?_) hK
 obtain⟨x,hx,hb⟩:=hrefs b hb
 rw[<-(hs x hx).1]at hb
 exact g.nP x b hb
theorem Mi(ho:o.op=.move x\/o.op=.assign x):cO E o s fr (s.ev x) none:=by
 have hm:x∈o.op.operands:=by rcases ho with h|h<;>rw[h]<;>simp[Op.operands]
 refine .pure (fun b hb=>⟨x,hm,hb⟩) fun S base w0 s' ρ a w hs g=>⟨a.eval x,?_,?_⟩
 ·rcases ho with h|h<;>simp[execOp,h]
 ·have:=g.ev x;rwa [(hs x hm).1]at this
theorem V4{c x y:Operand}{b:Bool}(ho:o.op=.pick c x y)(hc:s.ev c=.d (.v (.bool b))):cO E o s fr (s.ev (if b then x else y)) none:=by
 have hm:(if b then x else y)∈o.op.operands:=by rw[ho];cases b<;>simp[Op.operands]
 refine .pure (fun b' hb=>⟨_,hm,hb⟩) fun S base w0 s' ρ a w hs g=>⟨a.eval (if b then x else y),?_,?_⟩
 ·have h1:=g.ev c
  rw[(hs c (by rw[ho];simp[Op.operands])).1,hc]at h1
  have h2:a.eval c=.bool b:=RA.plain h1
  simp only[execOp,ho,h2,asBool,Sem.run_bind,Sem.run_pure,Result.andThen_ok]
  cases b<;>rfl
 ·have:=g.ev (if b then x else y);rwa [(hs _ hm).1]at this
theorem bA{G:Nat->Option (List Seg)}{base:Nat}{w0:W0 G}{s':St}{a:Act}(hs:Same o s s')(g:Good S base w0 s' ρ a w)(hx:x∈o.op.operands)(h:s.ev x=.d (.v v)):a.eval x=v:=by
 have h1:=g.ev x
 rw[(hs x hx).1,h]at h1
 exact RA.plain h1
theorem bB{G:Nat->Option (List Seg)}{base:Nat}{w0:W0 G}{s':St}{a:Act}(hs:Same o s s')(g:Good S base w0 s' ρ a w)(hx:x∈o.op.operands){t:T}(h:s.ev x=t):RT (Dt S base ρ) ρ w t (a.eval x):=by
 have h1:=g.ev x
 rwa [(hs x hx).1,h]at h1
theorem bz0{base:Nat}{w0:W0 E.G}{s':St}{a:Act}(g:Good S base w0 s' ρ a w){q:Nat}(h:E.G q=some l):RT (Dt S base ρ) ρ w (.d (.ref l 0)) (a.eval (.global q)):=by
 obtain⟨cs,h1,h2⟩:=g.glob q l h
 have:=RA.ref (off:=0) h1 h2
 exact this
theorem fZ{s:St}{t:T}(h:evG E.G s x=t):s.ev x=t\/∃q l,x=.global q/\E.G q=some l/\t=.d (.ref l 0):=by
 unfold evG at h
 split at h
 ·next q=>
  split at h
  ·next l hl=>exact .inr ⟨q,l,rfl,hl,h.symm⟩
  ·exact .inl h
 ·exact .inl h
theorem bk4{base:Nat}{w0:W0 E.G}{s':St}{a:Act}(hs:Same o s s')(g:Good S base w0 s' ρ a w)(hx:x∈o.op.operands)(h:evG E.G s x=.d (.ref l off)):RT (Dt S base ρ) ρ w (.d (.ref l off)) (a.eval x):=by
 rcases fZ h with h|⟨q,l',rfl,h1,h2⟩
 ·exact bB hs g hx h
 ·cases h2;exact bz0 g h1
theorem aC4{op:BinOp}{p q:A}{K:A->Prop}(h:aL6 op p q K):∃x y r,p=.v x/\q=.v y/\K (.v r)/\∀(P:Program) (w:World) (c d:Operand),((do eqGuard op t c d x y;binOp op t x y:Sem Value)).run P w=.ok r w:=by
 unfold aL6 at h
 split at h
 ·next k a k' b=>
  cases op<;>simp only at h
  case add=>obtain⟨rfl,h⟩:=h;exact⟨_,_,_,rfl,rfl,h,fun P w c d=>by simp[eqGuard,binOp,Op.intArith,Sem.run_bind]⟩
  case sub=>obtain⟨rfl,h⟩:=h;exact⟨_,_,_,rfl,rfl,h,fun P w c d=>by simp[eqGuard,binOp,Op.intArith,Sem.run_bind]⟩
  case mul=>obtain⟨rfl,h⟩:=h;exact⟨_,_,_,rfl,rfl,h,fun P w c d=>by simp[eqGuard,binOp,Op.intArith,Sem.run_bind]⟩
  case quo=>obtain⟨rfl,h0,h⟩:=h;exact⟨_,_,_,rfl,rfl,h,fun P w c d=>by simp[eqGuard,binOp,Op.intDiv,Sem.run_bind,h0]⟩
  case rem=>obtain⟨rfl,h0,h⟩:=h;exact⟨_,_,_,rfl,rfl,h,fun P w c d=>by simp[eqGuard,binOp,Op.intDiv,Sem.run_bind,h0]⟩
  case and=>obtain⟨rfl,h⟩:=h;exact⟨_,_,_,rfl,rfl,h,fun P w c d=>by simp[eqGuard,binOp,Op.intBits,bits,Sem.run_bind]⟩
  case or=>obtain⟨rfl,h⟩:=h;exact⟨_,_,_,rfl,rfl,h,fun P w c d=>by simp[eqGuard,binOp,Op.intBits,bits,Sem.run_bind]⟩
  case xor=>obtain⟨rfl,h⟩:=h;exact⟨_,_,_,rfl,rfl,h,fun P w c d=>by simp[eqGuard,binOp,Op.intBits,bits,Sem.run_bind]⟩
  case andNot=>obtain⟨rfl,h⟩:=h;exact⟨_,_,_,rfl,rfl,h,fun P w c d=>by simp[eqGuard,binOp,Op.intBits,bits,Sem.run_bind]⟩
  case shl=>obtain⟨h0,h⟩:=h;exact⟨_,_,_,rfl,rfl,h,fun P w c d=>by simp[eqGuard,binOp,Op.shift,Sem.run_bind,h0]⟩
  case shr=>obtain⟨h0,h⟩:=h;exact⟨_,_,_,rfl,rfl,h,fun P w c d=>by simp[eqGuard,binOp,Op.shift,Sem.run_bind,h0]⟩
  case eql=>obtain⟨rfl,h⟩:=h;exact⟨_,_,_,rfl,rfl,h,fun P w c d=>by simp[eqGuard,binOp,Op.intCmp,Sem.run_bind]⟩
  case neq=>obtain⟨rfl,h⟩:=h;exact⟨_,_,_,rfl,rfl,h,fun P w c d=>by simp[eqGuard,binOp,Op.intCmp,Sem.run_bind]⟩
  case lss=>obtain⟨rfl,h⟩:=h;exact⟨_,_,_,rfl,rfl,h,fun P w c d=>by simp[eqGuard,binOp,Op.intCmp,Sem.run_bind]⟩
  case leq=>obtain⟨rfl,h⟩:=h;exact⟨_,_,_,rfl,rfl,h,fun P w c d=>by simp[eqGuard,binOp,Op.intCmp,Sem.run_bind]⟩
  case gtr=>obtain⟨rfl,h⟩:=h;exact⟨_,_,_,rfl,rfl,h,fun P w c d=>by simp[eqGuard,binOp,Op.intCmp,Sem.run_bind]⟩
  case geq=>obtain⟨rfl,h⟩:=h;exact⟨_,_,_,rfl,rfl,h,fun P w c d=>by simp[eqGuard,binOp,Op.intCmp,Sem.run_bind]⟩
 ·exact h.elim
theorem bC6{op:BinOp}{t yt:TypeId}{p q:Value}{K:A->Prop}(ho:o.op=.binOp op t x y yt)(hx:s.ev x=.d (.v p))(hy:s.ev y=.d (.v q))(h:aL6 op (.v p) (.v q) K):
  ∃r,K r/\cO E o s fr (.d r) none:=by
 obtain⟨x',y',r,e1,e2,hK,hr⟩:=aC4 (t:=t) h
 cases e1;cases e2
 refine⟨_,hK,.pure (fun b hb=>by simp[T.refs]at hb) fun S base w0 s' ρ a w hs g=>⟨r,?_,.v r⟩⟩
 have h1:=bA hs g (by rw[ho];simp[Op.operands]) hx
 have h2:=bA hs g (by rw[ho];simp[Op.operands]) hy
 have h3:=hr E.P w x y
 simp only[Sem.run_bind]at h3
 simp only[execOp,ho,h1,h2,Sem.run_bind,h3,Result.andThen_ok,Sem.run_pure]
theorem Gp{op:BinOp}{t yt:TypeId}{p q r:Bool}(ho:o.op=.binOp op t x y yt)(hx:s.ev x=.d (.v (.bool p)))(hy:s.ev y=.d (.v (.bool q)))(hu:E.P.underlying t=some .bool)
  (hr:op=.eql/\r=(p==q)\/op=.neq/\r=(!(p==q))):cO E o s fr (.d (.v (.bool r))) none:=by
 refine .pure (fun b hb=>by simp[T.refs]at hb) fun S base w0 s' ρ a w hs g=>⟨_,?_,.v _⟩
 have h1:=bA hs g (by rw[ho];simp[Op.operands]) hx
 have h2:=bA hs g (by rw[ho];simp[Op.operands]) hy
 have h3:=run_equalIn_bool (P:=E.P) w 9999 t p q hu
 rcases hr with⟨rfl,rfl⟩|⟨rfl,rfl⟩
 ·simp[execOp,ho,h1,h2,Sem.run_bind,eqGuard,binOp,Op.equal,Op.maxDepth,h3]
 ·simp[execOp,ho,h1,h2,Sem.run_bind,eqGuard,binOp,Op.equal,Op.maxDepth,h3]
theorem bC9{b:Bool}(ho:o.op=.unOp .not t x)(hx:s.ev x=.d (.v (.bool b))):cO E o s fr (.d (.v (.bool (!b)))) none:=by
 refine .pure (fun b hb=>by simp[T.refs]at hb) fun S base w0 s' ρ a w hs g=>⟨_,?_,.v _⟩
 have h1:=bA hs g (by rw[ho];simp[Op.operands]) hx
 simp[execOp,ho,h1,Op.unary,Sem.run_bind]
theorem bC8{q:IntKind}{z:Int}(ho:o.op=.unOp .neg t x)(hx:s.ev x=.d (.v (.int q z))):cO E o s fr (.d (.v (.int q (q.wrap (0-z))))) none:=by
 refine .pure (fun b hb=>by simp[T.refs]at hb) fun S base w0 s' ρ a w hs g=>⟨_,?_,.v _⟩
 have h1:=bA hs g (by rw[ho];simp[Op.operands]) hx
 simp[execOp,ho,h1,Op.unary,Op.intArith,Sem.run_bind]
theorem aw8 {l : List Seg} (hno : ∀ (S : Nat -> Prop) (base : Nat) (w0 : W0 E.G) (s' : St) (ρ : Nat -> Option Value) (a : Act) (w : World), Same o s s' -> Good S base w0 s' ρ a w ->
      ∃ cs ty, (∀ D' w', Keeps (Dt S base ρ) w D' w' -> RL D' w' l cs) /\ (execOp a.eval o).run E.P w = .ok (.value (.pointer (some ⟨w.heap.size, 0, none⟩))) (w.alloc (.cells (List.toArray cs) ty))) :
    cO E o s fr (.ptr fr 0) (some (fr, .var l)) := by
  refine ⟨fun b hb => .inl ⟨by simpa [T.refs] using hb, _, rfl⟩, fun b x e => by cases e; exact .inl rfl, fun S base w0 s' ρ a w K Q hs g hf hlt hK => ?_⟩
  obtain ⟨cs, ty, h1, h2⟩ := hno S base w0 s' ρ a w hs g
  unfold Oper.wp
  rw [h2]
  have g2 := g.alloc hf hlt (ty := ty) h1
  refine hK _ _ _ (g2.put' o.dst (t := .ptr fr 0) ?_ ?_)
  · intro u hu
    simp [upd] at hu
    exact ⟨w.heap.size, .inl hu.symm, rfl⟩
  · intro b hb
    simp [T.refs] at hb
    subst hb
    simp [St.bk, aB, hlt]
theorem aw2{e:TypeId}(ho:o.op=.alloc e)(hY:E.Y e=some i):cO E o s fr (.ptr fr 0) (some (fr,.var i.zero)):=by
 obtain⟨f,z,h1,_,_,h2,h3⟩:=(E.hY e i hY).info
 refine aw8 fun S base w0 s' ρ a w hs g=>⟨z.cells.toList,e,fun D' w' _=>cZ h3,?_⟩
 simp[execOp,ho,Instr.alloc,zeroValue,typeInfo,h1,h2,newVar,newRow,Sem.run_bind]
theorem Lg{D:Nat->Prop}{a:A}(h:Ef a=some l)(hv:RA D w a v):RL D w l v.cells.toList:=by
 unfold Ef at h
 split at h
 ·cases h;cases hv with|agg k=>simpa[Value.cells]using k
 ·cases h;cases hv;exact .fI rfl rfl
 ·cases h;cases hv;exact .yg rfl rfl
 ·cases h
theorem bC7{e:TypeId}{d:A}(ho:o.op=.box e x)(hx:s.ev x=.d d)(hl:Ef d=some l):cO E o s fr (.ptr fr 0) (some (fr,.var l)):=by
 refine aw8 fun S base w0 s' ρ a w hs g=>⟨(a.eval x).cells.toList,e,fun D' w' k=>(Lg hl (bB hs g (by rw[ho];simp[Op.operands]) hx)).up k,?_⟩
 simp[execOp,ho,Instr.box,newVar,newRow,Sem.run_bind]
theorem zA{d:A}(ho:o.op=.load t x)(hY:E.Y t=some i)(hb:b∈(s.ev x).refs)(hk:s.bk b=some (.var l))
  (hx:∀{D:Nat->Prop} {ρ:Nat->Option Value} {w:World} {v:Value} {r:Nat},RT D ρ w (s.ev x) v->ρ b=some (.pointer (some ⟨r,0,none⟩))->v=.pointer (some ⟨r,off,none⟩))
  (hd:∀{S:Nat->Prop} {w:World} {cs:List Value},RL S w l cs->(i.agg=true->off+i.sz<=cs.length/\RA S w d (.agg ((cs.drop off).take i.sz).toArray))/\(i.agg=false->∃v,cs[off]?=some v/\RA S w d v/\v.oneCell'=true)):
  cO E o s fr (.d d) none:=by
 refine .pure (fun b hb=>by simp[T.refs]at hb) fun S base w0 s' ρ a w hs g=>?_
 have hm:x∈o.op.operands:=by rw[ho];simp[Op.operands]
 obtain⟨r,cs,ty,h1,h2,h3,h4⟩:=g.var ((hs.bk hm (by simp[looks,ho]) hb).trans hk)
 have h5:=hx (bB hs g hm rfl) h1
 obtain⟨v,h6,h7⟩:=gV (E.hY t i hY) (o:=0) (fun j hj=>by rw[Nat.zero_add,fU h3,List.getElem?_eq_getElem hj]) (hd h4)
 rw[Nat.zero_add]at h6
 exact⟨v,gq ho h5 h6,h7⟩
theorem Tv{d:A}(ho:o.op=.load t x)(hY:E.Y t=some i)(hx:evG E.G s x=.d (.ref l off))
  (hd:∀{S:Nat->Prop} {w:World} {cs:List Value},RL S w l cs->(i.agg=true->off+i.sz<=cs.length/\RA S w d (.agg ((cs.drop off).take i.sz).toArray))/\(i.agg=false->∃v,cs[off]?=some v/\RA S w d v/\v.oneCell'=true))
  (hne:i.agg=true->i.sz≠0):cO E o s fr (.d d) none:=by
 refine .pure (fun b hb=>by simp[T.refs]at hb) fun S base w0 s' ρ a w hs g=>?_
 have hm:x∈o.op.operands:=by rw[ho];simp[Op.operands]
 have h1:=bk4 hs g hm hx
 generalize hv:a.eval x=v at h1
 cases h1 with
 |ref k h4=>
  rename_i b o' cs
  rcases h4 with h4|⟨b',o'',e,h5,h6,h7⟩
  ·exfalso
   subst h4
   cases ha:i.agg with
   |true=>have:=((hd k).1 ha).1;simp at this;exact hne ha this.2
   |false=>obtain⟨v,h,_⟩:=(hd k).2 ha;simp at h
  ·cases e
   obtain⟨v,h8,h9⟩:=gV (E.hY t i hY) (o:=o') h7 (hd k)
   exact⟨v,gq ho hv h8,h9⟩
theorem Pf{d:A}(ho:o.op=.load t x)(hY:E.Y t=some i)(hx:s.ev x=.d (.sref l off))
  (hd:∀{S:Nat->Prop} {w:World} {cs:List Value},RL S w l cs->(i.agg=true->off+i.sz<=cs.length/\RA S w d (.agg ((cs.drop off).take i.sz).toArray))/\(i.agg=false->∃v,cs[off]?=some v/\RA S w d v/\v.oneCell'=true))
  (hne:i.agg=true->i.sz≠0):cO E o s fr (.d d) none:=by
 refine .pure (fun b hb=>by simp[T.refs]at hb) fun S base w0 s' ρ a w hs g=>?_
 have hm:x∈o.op.operands:=by rw[ho];simp[Op.operands]
 have h1:=bB hs g hm hx
 generalize hv:a.eval x=v at h1
 cases h1 with
 |sref k h4=>
  rename_i b o' cs
  rcases h4 with h4|⟨b',o'',e,h5,h6,h7⟩
  ·exfalso
   subst h4
   cases ha:i.agg with
   |true=>have:=((hd k).1 ha).1;simp at this;exact hne ha this.2
   |false=>obtain⟨v,h,_⟩:=(hd k).2 ha;simp at h
  ·cases e
   obtain⟨v,h8,h9⟩:=gV (E.hY t i hY) (o:=o') h7 (hd k)
   exact⟨v,gq ho hv h8,h9⟩
theorem Tt{b off n sz:Nat}{e:TypeId}{d:A}(ho:o.op=.load t x)(hY:E.Y t=some i)(hx:s.ev x=.BX b n off)(hk:s.bk b=some (.sl e sz n l))
  (hd:∀{S:Nat->Prop} {w:World} {cs:List Value},RL S w l cs->(i.agg=true->off+i.sz<=cs.length/\RA S w d (.agg ((cs.drop off).take i.sz).toArray))/\(i.agg=false->∃v,cs[off]?=some v/\RA S w d v/\v.oneCell'=true)):
  cO E o s fr (.d d) none:=by
 refine .pure (fun b hb=>by simp[T.refs]at hb) fun S base w0 s' ρ a w hs g=>?_
 have hm:x∈o.op.operands:=by rw[ho];simp[Op.operands]
 obtain⟨u,cs,h1,h2,h3⟩:=g.slc ((hs.bk hm (by simp[looks,ho]) (by rw[hx];simp[T.refs])).trans hk)
 obtain⟨ad,n',c,rfl,h4,h5⟩:=bB hs g hm hx u h1
 have hn:n=n':=by
  rcases h2.2 with⟨e1,e2⟩|⟨g',cap,cur,e1,_⟩
  ·cases e1;omega
  ·cases e1;rfl
 obtain⟨r,rfl,h6⟩:=h5 hn
 rcases h2.2 with⟨e1,e2⟩|⟨g',cap,cur,e1,h7,h8,h9,h10,h11,h12⟩
 ·cases e1
 ·cases e1
  obtain⟨v,JQ,JU⟩:=gV (E.hY t i hY) (r:=r) (o:=0) (cs:=cs) (fun j hj=>by
   rw[Nat.zero_add,cell_of_row w r j cur e (0,0) h8]
   have:(cur.toList.take (n*sz))[j]?=cs[j]?:=by rw[h12]
   rw[List.getElem?_take,if_pos (by have:=h2.1;omega),Array.getElem?_toList,List.getElem?_eq_getElem hj]at this
   exact this) (hd h3)
  rw[Nat.zero_add]at JQ
  exact⟨v,gq ho h6 JQ,JU⟩
theorem Gr{l l':List Seg}{d:A}(ho:o.op=.store t x y)(hY:E.Y t=some i)(hb:b∈(s.ev x).refs)(hk:s.bk b=some (.var l))(hy:s.ev y=.d d)
  (hx:∀{D:Nat->Prop} {ρ:Nat->Option Value} {w:World} {v:Value} {r:Nat},RT D ρ w (s.ev x) v->ρ b=some (.pointer (some ⟨r,0,none⟩))->v=.pointer (some ⟨r,off,none⟩))
  (hd:∀{S:Nat->Prop} {w:World} {cs:List Value} {v:Value},RL S w l cs->RA S w d v->
   v.cells.size=i.sz/\(∀u∈v.cells.toList,u.oneCell'=true)/\(off+i.sz<=cs.length\/i.sz=0)/\RL S w l' (cs.take off++(v.cells.toList++cs.drop (off+i.sz)))):
  cO E o s fr (.d (.v undef)) (some (b,.var l')):=by
 have hm:x∈o.op.operands:=by rw[ho];simp[Op.operands]
 have hm2:y∈o.op.operands:=by rw[ho];simp[Op.operands]
 refine⟨fun b hb=>by simp[T.refs]at hb,fun b' x' e=>by cases e;exact .inr ⟨x,hm,hb⟩,fun S base w0 s' ρ a w K Q hs g hf hlt hK=>?_⟩
 obtain⟨r,cs,ty,h1,h2,h3,h4⟩:=g.var ((hs.bk hm (by simp[looks,ho]) hb).trans hk)
 have h5:=hx (bB hs g hm rfl) h1
 obtain⟨k1,k2,k3,k4⟩:=hd h4 (bB hs g hm2 hy)
 have k1':(a.eval y).cells.toList.length=i.sz:=by rw[Array.length_toList,k1]
 have hrun:=pE (E.hY t i hY) k1 k2 h3 k3
 unfold Oper.wp
 have:(execOp a.eval o).run E.P w=.ok .skip (w.setRow r (cs.take off++((a.eval y).cells.toList++cs.drop (off+(a.eval y).cells.toList.length))).toArray):=by
  simp only[execOp,ho,h5,Instr.storeAt,Instr.sureAddr,Sem.run_bind,Sem.run_pure,Result.andThen_ok,hrun]
 rw[this]
 have g2:=g.store ((hs.bk hm (by simp[looks,ho]) hb).trans hk) h1 h3 (off:=off) (vs:=(a.eval y).cells.toList) (l':=l') (by rw[k1'];exact k4)
 exact hK _ _ _ (g2.put' o.dst (t:=.d (.v undef)) (.v undef) (by simp[T.refs]))
end
end
end Go.Proofs.YtegalalmamofdaaGreatDoor
