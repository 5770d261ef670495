/- -/
import Derived.Test.YtegalalmamofdaaGreatDoorKWorldGrowsh
import Derived.Test.YtegalalmamofdaaGreatDoorKWorldGrowsb
namespace Go.Proofs.YtegalalmamofdaaGreatDoor
set_option linter.all false
set_option maxRecDepth 100000
open Go.RowKit
set_option maxHeartbeats 8000000
variable{S D:Nat->Prop}{w w' b:World}{vs ps:List Value}{x v' v v1:Value}{r j m o i q:Nat}{n n' nn fr dr er:Int}{B:Nat->List Nat}{t':TypeId}{P:List UInt8}{f:FuncId}{E:ak}{cs:Array Value}{ops vz:List Int}{a:Act}{Bn:List Nat}{l:List Seg}{R:Ending->World->Prop}{Q:Exit->Act->World->Prop}{p:PS}{W:Nat->List Seg}
section
structure BS where
 L:List Ln
 s:Nat
 f:Nat
def bkQ(x:BS)(h:Nat->Option Obj)(r:Nat):Prop:=ab9 x.L x.s x.f h r/\x.s<=x.L.length/\x.L.length<=100
def bkP(x:BS):OP:=.of (bkQ x)
def zS(x:BS)(e:Int)(p:List UInt8):Int:=
 if e<0\/e>1099511627776 then 1 else if vU x.L e=true then(if(uI x.L e==p)=true then 0 else 9)else if 100<=x.L.length then 12 else 0
def jk(x:BS)(e:Int)(p:List UInt8):BS:=
 if e<0\/e>1099511627776 then x else if vU x.L e=true then x else if 100<=x.L.length then x else⟨x.L++[(e,p)],x.s,x.f⟩
def o8(x:BS):BS:=⟨x.L,x.L.length,x.f+1⟩
def br8(x:BS)(keep:Int):BS:=⟨x.L.take (VP x.L.length x.s keep),VP x.L.length x.s keep,0⟩
theorem bM3(h:mH S w [] vs):vs=[]:=by cases h;rfl
theorem args2{p:List UInt8}(h:mH S w [.v x,.agg [.bytes 32 p]] vs):vs=[x,.agg (HC p)]/\p.length=32:=by
 cases h with|cons h r=>cases r with|cons h2 r=>cases r;cases h;obtain⟨rfl,h3⟩:=GI h2;exact⟨rfl,h3⟩
theorem XY(x:BS)(hf:x.f<=1000):vC Tryz.prog gTab 51 0 (bkP x) [] (.t []) (bkP (o8 x)):=by
 intro S w r F vs hG hlt hp hA hS
 obtain⟨hp,h1,h2⟩:=hp
 obtain rfl:=bM3 hA
 obtain⟨t,v,hb,hF⟩:=nC.of hp
 refine(R3 w r t v x.L x.s x.f hb (by omega)).mono ?_
 rintro y w' ⟨rfl,k1,k2⟩
 exact⟨_,F,[],rfl,fun q hq=>.inl (by simp[hq]),fun q hq=>yLl (hlt q hq) k2.size,⟨(hb.next k1 k2).to hF,yLr _,h2⟩,⟨[],rfl,.nil⟩,⟨k2.os,k2.tape,k2.output,k2.size,fun k hk hn=>k2.block k hk (fun e=>hn (by cases e;simp))⟩⟩
def yZ(y:BS)(e:Int):Prop:=¬(e<0\/e>1099511627776)/\vU y.L e=false/\¬100<=y.L.length
theorem ZH(x:BS)(e:Int)(p:List UInt8)
  (hf:yZ x e:=by assumption)
  :vC Tryz.prog gTab 50 0 (bkP x) [.v (.int .i64 e),.agg [.bytes 32 p]] (.d (.v (.int .i64 (zS x e p)))) (bkP (jk x e p)):=by
 intro S w r F vs hG hlt hp hA hS
 have hp0:=hp
 obtain⟨hp,h1,h2⟩:=hp
 obtain⟨rfl,hl⟩:=args2 hA
 obtain⟨t,v,hb,hF⟩:=nC.of hp
 have stay:∀(y:Int),(∀(w':World),aM w' r (BC 0 v x.s x.f) t/\w.grownBy w' (some r)->∃v' F' N,Ending.returned (.int .i64 y)=.returned v'/\(∀q∈F',q∈r::F\/w.heap.size<=q)/\(∀q∈r::F',q<w'.heap.size)/\bkQ x (hres w' (r::F')) r/\RRb S w w' (r::F') N (.d (.v (.int .i64 y))) v'/\bX (fun q=>q∈r::F) w w'):=fun y w' ⟨k1,k2⟩=>
  ⟨_,F,[],rfl,fun q hq=>.inl (by simp[hq]),fun q hq=>yLl (hlt q hq) k2.size,⟨(hb.next k1 k2).to hF,h1,h2⟩,.v _,⟨k2.os,k2.tape,k2.output,k2.size,fun k hk hn=>k2.block k hk (fun e=>hn (by cases e;simp))⟩⟩
 unfold zS jk
 obtain⟨c1,c2',c3⟩:=hf
 have c2:¬vU x.L e=true:=by rw[c2'];decide
 rw[if_neg c1,if_neg c1,if_neg c2,if_neg c2,if_neg c3,if_neg c3]
 refine(ZI w r t v x.L x.s x.f e p hl (by omega) (by omega) (by omega) c2' (by omega) hb).mono ?_
 rintro y w' ⟨rfl,v',k1,k2,k3⟩
 have hin:∀q,v.ownBlock=some q->q∈r::F:=fun q hq=>by simp[hF q hq]
 refine⟨_,match v'.ownBlock with|some q=>[q]|none=>[],[],rfl,fun q hq=>?_,fun q hq=>?_,⟨k1.to fun q hq=>by rw[hq];simp,by simp;omega,by simp;omega⟩,.v _,⟨k3.os,k3.tape,k3.output,k3.size,fun k hk hn=>k3.block k hk (fun e=>hn (by rcases e with e|e;simp[e];exact hin k e))⟩⟩
 ·cases hv:v'.ownBlock with
  |none=>rw[hv]at hq;cases hq
  |some q'=>
   rw[hv]at hq
   simp at hq;subst hq
   rcases k2 with k2|⟨q2,k2,k4⟩
   ·exact .inl (hin q (by rw[<-k2];exact hv))
   ·rw[hv]at k2;cases k2;exact .inr k4
 ·rcases List.mem_cons.1 hq with rfl|hq
  ·exact yLl (hlt _ (by simp)) k3.size
  ·cases hv:v'.ownBlock with
   |none=>rw[hv]at hq;cases hq
   |some q'=>
    rw[hv]at hq
    simp at hq;subst hq
    rcases k1.own.2 with⟨e1,_⟩|⟨q2,cap,cur,e1,_,h5,_⟩<;>rw[e1]at hv<;>cases hv
    exact(yAe.1 h5).1
theorem au1(w:World):Calls Tryz.prog 16 #[] w fun x w'=>x=.returned (.pointer (some ⟨w.heap.size,0,none⟩))/\w'=w.alloc (.cells (BC 0 (.slice none 0 0) 0 0) 92):=by
 go_enter Tryz.func16,Tryz.ntmps16
 go_wp2
 go_ret
 exact⟨rfl,rfl⟩
end
section
open Pm
structure Cm where
 p:(Nat->Prop)->World->List Nat->Value->Prop
 up:∀{D D':Nat->Prop} {w w':World} {B:List Nat} {v:Value},Keeps D w D' w'->(∀q∈B,w'.heap[q]?=w.heap[q]?)->p D w B v->p D' w' B v
 lt:∀{D:Nat->Prop} {w:World} {B:List Nat} {v:Value},p D w B v->∀q∈B,q<w.heap.size
 one:∀{D:Nat->Prop} {w:World} {B:List Nat} {v:Value},p D w B v->v.oneCell'=true
def jG(a:A):Cm:=⟨fun D w B v=>B=[]/\RA D w a v/\v.oneCell'=true,fun k _ ⟨h1,h2,h3⟩=>⟨h1,h2.up k,h3⟩,fun⟨h1,_⟩ q hq=>(by rw[h1]at hq;cases hq),fun⟨_,_,h3⟩=>h3⟩
def Jo(x:BS):Cm:=⟨fun D w B v=>∃q G,B=q::G/\v=.pointer (some ⟨q,0,none⟩)/\(∀z∈q::G,z<w.heap.size)/\bkQ x (hres w (q::G)) q,
 fun {D D' w w' B v} k e ⟨q,G,h1,h2,h3,h4⟩=>⟨q,G,h1,h2,fun z hz=>yLl (h3 z hz) k.1,by rw[VF fun z hz=>e z (by rw[h1];exact hz)];exact h4⟩,
 fun⟨q,G,h1,_,h3,_⟩ z hz=>h3 z (by rw[<-h1];exact hz),fun⟨q,G,_,h2,_⟩=>by rw[h2];rfl⟩
def cSl(e:TypeId)(sz n:Nat)(l:List Seg):Cm:=⟨fun D w B v=>∃cs,B=yD v/\w.ownsRow 0 e sz v n cs/\RL D w l cs,
 fun {D D' w w' B v} k e ⟨cs,h1,h2,h3⟩=>⟨cs,h1,Bd h2 fun z hz=>e z (by rw[h1];exact dV.2 hz),h3.up k⟩,
 fun⟨cs,h1,h2,_⟩ z hz=>wY h2 (dV.1 (by rw[<-h1];exact hz)),fun⟨cs,_,h2,_⟩=>by
  rcases h2.2 with⟨e1,_⟩|⟨q,cap,cur,rfl,_⟩
  ·rw[e1];rfl
  ·rfl⟩
def vF(n mu:Int)(vs:List Value):List Value:=.int .i64 n::.int .i32 mu::.int .u32 0::vs
structure WQ(D:Nat->Prop)(w:World)(r:Nat)(mu n:Int)(c:Nat->Cm)(vs:List Value)(B:Nat->List Nat)(t:TypeId):Prop where
 len:vs.length=18
 blk:aM w r (vF n mu vs).toArray t
 at':∀j,j<18->(c j).p D w (B j) (vs.getD j undef)
 ne:∀j,j<18->r∉B j
 sep:∀j k,j<18->k<18->j≠k->∀q∈B j,q∉B k
 dat:∀z,D z->z≠r/\∀j,j<18->z∉B j
theorem WQ.set{mu n mu' n':Int}{c:Nat->Cm}{t t':TypeId}{B':List Nat}{c':Cm}(h:WQ D w r mu n c vs B t)(hj:j<18)
  (hb:aM w' r (vF n' mu' (vs.set j v')).toArray t')(hg:bX (fun q=>q=r\/q∈B j) w w')(hB:∀q∈B',q∈B j\/w.heap.size<=q)(hr:r∉B')(hc:c'.p (fun z=>(D z\/w.heap.size<=z)/\z≠r/\z∉B') w' B' v'):
  WQ (fun z=>(D z\/w.heap.size<=z)/\z≠r/\z∉B') w' r mu' n' (upd c j c') (vs.set j v') (upd B j B') t':=by
 have hrl:r<w.heap.size:=h.blk.lt
 have kp:Keeps D w (fun z=>(D z\/w.heap.size<=z)/\z≠r/\z∉B') w':=⟨hg.size,fun z hz hd=>⟨⟨.inl hd,(h.dat z hd).1,fun hm=>by
  rcases hB z hm with h1|h1
  ·exact(h.dat z hd).2 j hj h1
  ·omega⟩,fun o=>World.cell?_of_block (hg.block z hz fun e=>by rcases e with e|e;exact(h.dat z hd).1 e;exact(h.dat z hd).2 j hj e)⟩⟩
 have same:∀k,k<18->k≠j->∀q∈B k,w'.heap[q]?=w.heap[q]?:=fun k hk hn q hq=>hg.block q ((c k).lt (h.at' k hk) q hq) fun e=>by
  rcases e with e|e
  ·exact h.ne k hk (by rw[<-e];exact hq)
  ·exact h.sep k j hk hj hn q hq e
 refine⟨by rw[List.length_set];exact h.len,hb,fun k hk=>?_,fun k hk=>?_,fun k i hk hi hn q hq hm=>?_,fun z hz=>⟨hz.2.1,fun k hk hm=>?_⟩⟩
 ·rw[aB]
  by_cases e:k=j
  ·subst e
   rw[if_pos ⟨rfl,by rw[h.len];exact hj⟩]
   simp only[upd,if_true]
   exact hc
  ·rw[if_neg fun e2=>e e2.1.symm]
   simp only[upd,if_neg e]
   exact(c k).up kp (same k hk e) (h.at' k hk)
 ·unfold upd
  split
  ·exact hr
  ·exact h.ne k hk
 ·unfold upd at hq hm
  by_cases e1:k=j
  ·rw[if_pos e1]at hq
   have e2:i≠j:=fun e=>hn (e1.trans e.symm)
   rw[if_neg e2]at hm
   rcases hB q hq with h1|h1
   ·exact h.sep j i hj hi (fun e=>e2 e.symm) q h1 hm
   ·have:=(c i).lt (h.at' i hi) q hm;omega
  ·rw[if_neg e1]at hq
   by_cases e2:i=j
   ·rw[if_pos e2]at hm
    rcases hB q hm with h1|h1
    ·exact h.sep k j hk hj e1 q hq h1
    ·have:=(c k).lt (h.at' k hk) q hq;omega
   ·rw[if_neg e2]at hm
    exact h.sep k i hk hi hn q hq hm
 ·unfold upd at hm
  by_cases e1:k=j
  ·rw[if_pos e1]at hm;exact hz.2.2 hm
  ·rw[if_neg e1]at hm
   rcases hz.1 with h1|h1
   ·exact(h.dat z h1).2 k hk hm
   ·have:=(c k).lt (h.at' k hk) z hm;omega
def jQ (mu n : Int) (c : Nat -> Cm) : OP :=
  ⟨fun D w F r => ∃ (vs : List Value) (B : Nat -> List Nat) (t : TypeId), r ∈ F /\ vs.length = 18 /\ aM w r (vF n mu vs).toArray t /\ (∀ j, j < 18 -> (c j).p D w (B j) (vs.getD j undef)) /\ (∀ j, j < 18 -> r ∉ B j) /\ (∀ j k, j < 18 -> k < 18 -> j ≠ k -> ∀ q ∈ B j, q ∉ B k) /\ ∀ j, j < 18 -> ∀ q ∈ B j, q ∈ F,
   fun {D D' w w' F r} k e ⟨vs, B, t, h0, h1, h2, h3, h4, h5, h6⟩ => ⟨vs, B, t, h0, h1, (e r h0).trans h2, fun j hj => (c j).up k (fun q hq => e q (h6 j hj q hq)) (h3 j hj), h4, h5, h6⟩⟩
theorem aI1{F:List Nat}{mu n:Int}{c:Nat->Cm}(h:(jQ mu n c).p S w (r::F) r)(hS:∀z,S z->z∉r::F):∃(vs:List Value) (B:Nat->List Nat) (t:TypeId),WQ S w r mu n c vs B t/\∀j,j<18->∀q∈B j,q∈r::F:=by
 obtain⟨vs,B,t,_,h1,h2,h3,h4,h5,h6⟩:=h
 exact⟨vs,B,t,⟨h1,h2,h3,h4,h5,fun z hz=>⟨fun e=>hS z hz (by simp[e]),fun j hj hm=>hS z hz (h6 j hj z hm)⟩⟩,h6⟩
end
section
open Pm
structure Ap where
 p:List UInt8
 k:Int
 e:Int
 s:Int
def K9:Ap:=⟨[],0,0,0⟩
def apF(L:List Ap)(j:Nat):List Seg:=[.bytes 32 (L.getD j K9).p,.ints .i64 3 [(L.getD j K9).k,(L.getD j K9).e,(L.getD j K9).s]]
def FR(p:List UInt8)(k:Int)(x:Ap):Bool:=x.p==p&&x.k==k
def gW(L:List Ap)(p:List UInt8)(k:Int):Bool:=L.any (FR p k)
def jU(L:List Ap)(p:List UInt8)(k:Int):List Int:=match L.find? (FR p k)with|some x=>[x.k,x.e,x.s]|none=>[0,0,0]
theorem ak5(L:List Ap)(p:List UInt8)(k:Int):∃N,N<=L.length/\(∀j,j<N->FR p k (L.getD j K9)=false)/\(N=L.length/\gW L p k=false/\jU L p k=[0,0,0]\/N<L.length/\FR p k (L.getD N K9)=true/\gW L p k=true/\jU L p k=[(L.getD N K9).k,(L.getD N K9).e,(L.getD N K9).s]):=by
 induction L with
 |nil=>exact⟨0,yLr _,fun j hj=>absurd hj (by omega),.inl ⟨rfl,rfl,rfl⟩⟩
 |cons x L ih=>
  cases h:FR p k x with
  |true=>exact⟨0,Nat.zero_le _,fun j hj=>absurd hj (by omega),.inr ⟨by simp,by simpa using h,by simp[gW,h],by simp[jU,List.find?,h]⟩⟩
  |false=>
   obtain⟨N,h1,h2,h3⟩:=ih
   have e1:gW (x::L) p k=gW L p k:=by simp[gW,h]
   have e2:jU (x::L) p k=jU L p k:=by simp[jU,List.find?,h]
   refine⟨N+1,by simpa using h1,fun j hj=>?_,?_⟩
   ·cases j with
    |zero=>simpa using h
    |succ j=>simpa using h2 j (by omega)
   ·rw[e1,e2]
    rcases h3 with⟨h3,h4,h5⟩|⟨h3,h4,h5,h6⟩
    ·exact .inl ⟨by simp[h3],h4,h5⟩
    ·exact .inr ⟨by simpa using h3,by simpa using h4,h5,by simpa using h6⟩
attribute [local irreducible] aN aQ bq gW jU
theorem WK(n mu:Int)(l:List A)(po:A)(L:List Ap)(p:List UInt8)(k:Int)(hL:L.length<=1000000):
  aV 82 [.sref (uf n mu l po (.recs L.length 35 (apF L))) 0,.agg [.bytes 32 p],.v (.int .i64 k)] (.t [.agg [.ints .i64 3 (jU L p k)],.v (.bool (gW L p k))]):=by
 refine eO (E:=oW) Tryz.func82 Tryz.ntmps82 ?_
 unfold uf
 obtain⟨N,hN,hno,hend⟩:=ak5 L p k
 refine ah ?_
 refine aX.mk (cB [2,4,6,7,13,14,15] [0,1] N (fun j=>⟨.au::.au::.d (.v (.int .i64 k))::.au::.ptr 0 0::.au::.ptr 1 0::.d (.v (.bool false))::.au::.au::.au::.au::.au::.d (.recs L.length 35 (apF L))::.d (.v (.int .i64 (L.length:Nat)))::.d (.v (.int .i64 (j:Nat)))::dz 18 [],[some (.var [.bytes 32 p]),some (.var [.ints .i64 3 [0,0,0]])]⟩) ?_)
 intro j hj hl
 by_cases h:j<N
 ·have h1:(j:Int)<(L.length:Int):=by omega
  have h2:=hno j h
  clear hend hno
  unfold FR at h2
  cases hp:((L.getD j K9).p==p)with
  |false=>
   have h3:bM [.bytes 32 (L.getD j K9).p] [.bytes 32 p]=false:=by simp[bM];simpa using hp
   clear h2
   refine ah ?_
   refine hl.go h [2,4,6,7,13,14,15] [0,1] ?_
   rfl
  |true=>
   have h3:bM [.bytes 32 (L.getD j K9).p] [.bytes 32 p]=true:=by simp[bM];simpa using hp
   have h4:((L.getD j K9).k==k)=false:=by rw[hp]at h2;simpa using h2
   clear h2
   refine ah ?_
   refine hl.go h [2,4,6,7,13,14,15] [0,1] ?_
   rfl
 ·obtain rfl:j=N:=by omega
  rcases hend with⟨rfl,h4,h5⟩|⟨h3,h4,h5,h6⟩
  ·have h1:¬(L.length:Int)<(L.length:Int):=by omega
   rw[h4,h5]
   clear h4 h5 hno
   refine ah ?_;(try exact⟨⟩)
  ·have h1:(j:Int)<(L.length:Int):=by omega
   unfold FR at h4
   rw[Bool.and_eq_true]at h4
   obtain⟨a1,a2⟩:=h4
   have a3:bM [.bytes 32 (L.getD j K9).p] [.bytes 32 p]=true:=by simp[bM];simpa using a1
   rw[h5,h6]
   clear h5 h6 hno
   refine ah ?_;(try exact⟨⟩)
end
noncomputable section
open Pm
def aF4:List A->(bC->Prop)->Prop
 |[.sref [.ints .i64 1 [n],.ints .i32 1 [mu],.ints .u32 1 [0],.gen 16 l,.gen 2 [po,.recs m 35 f]] 0,.agg [.bytes 32 p],.v (.int .i64 k)],K=>∃L:List Ap,f=apF L/\m=L.length/\m<=1000000/\∀b v,b=gW L p k->v=jU L p k->K (.t [.agg [.ints .i64 3 v],.v (.bool b)])
 |_,_=>False
theorem aF5:∀args K,aF4 args K->∃r,aV 82 args r/\K r:=by
 intro args K h
 unfold aF4 at h
 split at h
 ·obtain⟨L,rfl,rfl,h1,h⟩:=h
  exact⟨_,WK _ _ _ _ L _ _ h1,h _ _ rfl rfl⟩
 ·exact h.elim
def vN(L:List Ap)(p:List UInt8):Nat->Nat
 |0=>0
 |j+1=>if gW L p (j:Nat)=true then vN L p j+1 else vN L p j
def vZ(L:List Ap)(p:List UInt8):Nat->List Int
 |0=>[]
 |j+1=>if gW L p (j:Nat)=true then vZ L p j++jU L p (j:Nat)else vZ L p j
theorem Qs(L:List Ap)(p:List UInt8):∀j,vN L p j<=j
 |0=>yLr _
 |j+1=>by have:=Qs L p j;unfold vN;split<;>omega
theorem Zl(L:List Ap)(p:List UInt8)(k:Int):(jU L p k).length=3:=by unfold jU;split<;>rfl
attribute [local irreducible] aN aQ bq gW jU vN vZ bW uf
def bx3:ak:=oW.add 49 Mj (Kl Gu) (.of Tryz.func49)
def bx4:ak:=bx3.add 82 aF4 aF5 (.of Tryz.func82)
def bx5:ak:=bx4.add 12 (ofP (fun p=>.d (.agg (eD p.e p.zs p.ad p.k p.ch))) (.d (.agg DX))) (zy Ij EM) (.of Tryz.func12)
def bx6:ak:=bx5.add 14 (ofP (fun p=>.d (.v (.int .i64 p.lf))) (.d (.v (.int .i64 0)))) (zy CO Bf) (.of Tryz.func14)
theorem aH5(n mu:Int)(l:List A)(po:A)(L:List Ap)(q:PS)(m:Nat)(ops:List Int)(hL:L.length<=1000000)(hm:m≠0)(hm1:m<=1000000)(P:List UInt8)(hP:P=bW q.e q.zs q.ad q.k q.ch q.lf ops):
  aV 54 [.sref [.ints .i64 1 [n],.ints .i32 1 [mu],.ints .u32 1 [0],.gen 16 l,.gen 2 [po,.recs L.length 35 (apF L)]] 0,.sref (aP q) 0,.row m [.ints .i64 (m*5) ops]] (.o 103 3 (vN L P 8) [.ints .i64 (vN L P 8*3) (vZ L P 8)]):=by
 refine eO (E:=bx6) Tryz.func54 Tryz.ntmps54 ?_
 have h0:¬(m:Int)=0:=by omega
 refine ah ?_
 rw[<-hP]
 refine aX.mk (qp [0,7,8,21] [0,1] 8 103 3 [.ints .i64 0 []] 8 (fun j=>⟨.d (.sref [.ints .i64 1 [n],.ints .i32 1 [mu],.ints .u32 1 [0],.gen 16 l,.gen 2 [po,.recs L.length 35 (apF L)]] 0)::.au::.au::.au::.au::.au::.au::.ptr 0 0::.own 1 (vN L P j)::dz 12 (.d (.v (.int .i64 (j:Nat)))::dz 16 []),[some (.var [.bytes 32 P]),some (.sl 103 3 (vN L P j) [.ints .i64 (vN L P j*3) (vZ L P j)])]⟩) ?_ (h2:=by(try dsimp only);rw[show vN L P 0=0 by rw[vN],show vZ L P 0=[] by rw[vZ],Nat.zero_mul];rfl))
 intro j hj hl
 by_cases h:j<8
 ·have h1:(j:Int)<8:=by omega
  have hle:=Qs L P j
  refine ah ?_
  intro b v hb hv
  have hv3:=Zl L P (j:Nat)
  rw[<-hv]at hv3
  cases b with
  |false=>
   have e1:vN L P (j+1)=vN L P j:=by rw[vN,<-hb];rfl
   have e2:vZ L P (j+1)=vZ L P j:=by rw[vZ,<-hb];rfl
   clear hb hv
   have E1:=yHd e1;have E2:=yHd e2
   clear e1 e2
   refine ah ?_
   refine hl.go h [0,7,8,21] [0,1] ?_
   try dsimp only
   rw[E1.out,E2.out]
   rfl
  |true=>
   have e1:vN L P (j+1)=vN L P j+1:=by rw[vN,<-hb];rfl
   have e2:vZ L P (j+1)=vZ L P j++v:=by rw[vZ,<-hb,hv];rfl
   clear hb hv
   have E1:=yHd e1;have E2:=yHd e2
   clear e1 e2
   refine ah ?_
   refine hl.go h [0,7,8,21] [0,1] ?_
   try dsimp only
   rw[E1.out,E2.out,Nat.succ_mul]
   rfl
 ·obtain rfl:j=8:=by omega
  refine ah ?_;(try exact⟨⟩)
end
noncomputable section
open Pm
theorem al4{P:Program}{G:Nat->Option (List Seg)}{args:List A}{e:TypeId}{sz n m:Nat}{k:IntKind}{l:List Int}(h:mG P G f args (.o e sz n [.ints k m l])):FnF P G f args (.d (.row n [.ints k m l])):=fun S w vs hG hv=>
 (h S w vs hG hv).mono fun e w' ⟨v,h1,⟨cs,h2,h3⟩,h4⟩=>⟨v,h1,ME ⟨cs,h2,by cases h3 with|ints q r=>cases r;exact .ints q .nil⟩,h4⟩
theorem GL.bN0{s:St}{ops r:List Oper}{o:Oper}{t:T}{blk:Option (Nat×Bk)}{k:St->Prop}(hg:o.guard=none)(ho:cO E o s s.h.length t blk)(h:GL E ops r (s.qW o.dst t blk) k):GL E ops (o::r) s k:=by
 refine⟨fun S base w0 ρ a w g=>?_⟩
 have hs:wm E ops o s s.h.length t blk:=.inl ⟨by unfold sN;rw[hg],ho⟩
 unfold wpList
 refine hs.run (s':=⟨s.t,s.h++List.replicate 1 none⟩) (ρ:=ρ) (a:=a) (w:=w) (fun x hx=>⟨by cases x<;>rfl,fun b _=>jA s 1 b⟩) (fun _ _ _ _ _=>rfl) (g.sim (U2.more s 1)) ?_ (by simp) fun a' w' ρ' g'=>?_
 ·rw[jA]
  unfold St.bk
  rw[yGd,List.getElem?_eq_none (yLr _)];rfl
 ·exact h.out _ _ _ _ _ _ (g'.yx wD)
theorem GL.build{s:St}{ops r:List Oper}{o:Oper}{t:TypeId}{len:Nat}{parts:Array (Nat×Operand)}{i j:TI}{k:St->Prop}(hg:o.guard=none)(ho:o.op=.buildSlice t len parts)(hY:E.Y t=some i)(hs1:i.sl=true)(he:i.bY≠0)(hl:len≠0)(hm:len*i.bY<=16777216)(hj:E.Y i.elem=some j)(hjs:dM j.zero=i.bY)
  (h:Dm (fun f=>some (f*i.bY,i.bY)) s parts.toList (qH len j.zero) fun l=>Stop (GL E ops r (s.qW o.dst (.own s.h.length len) (some (s.h.length,.sl i.elem i.bY len l))) k)):GL E ops (o::r) s k:=by
 obtain⟨l,h1,h2⟩:=yP (s:=s) (fr:=s.h.length) ho hY hs1 he hl hm hj hjs h
 exact GL.bN0 hg h2 h1.out
def bI9:List Seg->WS
 |[.ints .i64 2 [leaf,fr],.ints .i64 1 [e],.ints .i64 31 zs,.bools 8 ad,.ints .i64 1 [k],.bytes 32 ch,.gen 1 [.row _ [.bytes _ box]],.bytes 32 tag]=>⟨leaf,fr,e,zs,ad,k,ch,box,tag⟩
 |_=>⟨0,0,0,[],[],0,[],[],[]⟩
theorem Na(w:WS):bI9 (kJ w)=w:=rfl
def okW(l:List Seg):Prop:=∃w,l=kJ w/\sM w/\kW w=true
def wN(l:List Seg):Nat:=ZC (bI9 l)
def wB(l:List Seg):List UInt8:=IE (bI9 l)
def bH3:List A->(bC->Prop)->Prop
 |[.agg [.ints .i64 2 [leaf,fr],.ints .i64 1 [e],.ints .i64 31 zs,.bools 8 ad,.ints .i64 1 [k],.bytes 32 ch,.gen 1 [.row n [.bytes m box]],.bytes 32 tag]],K=>n=box.length/\m=box.length/\sM ⟨leaf,fr,e,zs,ad,k,ch,box,tag⟩/\kW ⟨leaf,fr,e,zs,ad,k,ch,box,tag⟩=true/\∀N B,N=ZC ⟨leaf,fr,e,zs,ad,k,ch,box,tag⟩->B=IE ⟨leaf,fr,e,zs,ad,k,ch,box,tag⟩->K (.t [.row N [.bytes N B],.v (.int .i64 0)])
 |_,_=>False
theorem bc8:∀args K,bH3 args K->∃r,aV 94 args r/\K r:=by
 intro args K h
 unfold bH3 at h
 split at h
 ·next leaf fr e zs ad k ch n m box tag=>
  obtain⟨rfl,rfl,h1,h2,h⟩:=h
  have:=QH ⟨leaf,fr,e,zs,ad,k,ch,box,tag⟩ h1
  unfold wlR at this
  rw[if_pos h2]at this
  exact⟨_,this,h _ _ rfl rfl⟩
 ·exact h.elim
def ny(c:CS)(W:Nat->List Seg):Nat->List A
 |0=>[.row (bE c) [.bytes (bE c) (bS c)]]
 |j+1=>ny c W j++[.row (wN (W j)) [.bytes (wN (W j)) (wB (W j))]]
attribute [local irreducible] aN aQ bq aJ aI eY dL bP aD aC aF bn aY aj bR fC fu bT dH jm eG jO bg aZ mI fq eX bJ aT dB jF aK eB dK kG fO bD fG dA bS bE okW wN wB ny ZC IE kW
def bv1:ak:=RX.add 94 bH3 bc8 (.of Tryz.func94)
theorem SE(e fr:Int)(n:Nat)(ops:List Int)(m:Nat)(vs:List Int)(sl p0 p1 p2:Int)(k:Nat)(bx:Nat->List UInt8)(tg:List UInt8)(sE sS:Int)(hn:n<=3000)(hm:m<=3000)(hk:k<=3000)(hb:∀j,j<k->(bx j).length<=6000)(hM:dA ⟨e,fr,n,ops,m,vs,sl,p0,p1,p2,k,bx,tg,sE,sS⟩=true)(N:Nat)(hN:N<=1000)(W:Nat->List Seg)(hW:∀j,j<N->okW (W j)):
  aV 55 [.agg (nN ⟨e,fr,n,ops,m,vs,sl,p0,p1,p2,k,bx,tg,sE,sS⟩),.recs N 108 W] (.t [.row (N+1) [.gen (N+1) (ny ⟨e,fr,n,ops,m,vs,sl,p0,p1,p2,k,bx,tg,sE,sS⟩ W N)],.v (.int .i64 0)]):=by
 refine cc6 (E:=bv1) Tryz.func55 Tryz.ntmps55 ?_
 obtain⟨c,hc⟩:∃c:CS,c=⟨e,fr,n,ops,m,vs,sl,p0,p1,p2,k,bx,tg,sE,sS⟩:=⟨_,rfl⟩
 unfold nN
 refine GW.seq (GW.of ?_)
 refine ah ?_
 refine GW.seq (GW.of ?_)
 refine ah ?_
 intro L B hL hB
 rw[<-hc]at hL hB ⊢
 have h0:ny c W 0=[.row L [.bytes L B]]:=by rw[ny,hL,hB]
 have hs:∀j,ny c W (j+1)=ny c W j++[.row (wN (W j)) [.bytes (wN (W j)) (wB (W j))]]:=fun j=>by rw[ny]
 clear hc hL hB hM
 generalize ny c W=T at*
 have H0:=yHd h0
 have HS:=yHd hs
 clear h0 hs
 refine ah ?_
 refine GW.seq (GW.of ?_)
 refine ah ?_
 refine GW.seq (GW.region (GL.I4 1 ?_))
 refine ah ?_
 refine GL.build (t:=50) rfl rfl rfl rfl (by decide) (by decide) (by decide) rfl rfl ?_
 refine ah ?_
 refine⟨GL.of (Stop.out ?_)⟩
 refine ah ?_
 refine GW.of ?_
 refine ah ?_
 refine aX.mk (cB [8,23,24,25] [0,1] N (fun j=>⟨dz 8 (.own 1 (j+1)::dz 14 (.d (.recs N 108 W)::.d (.v (.int .i64 (N:Nat)))::.d (.v (.int .i64 (j:Nat)))::dz 17 [])),[some (.var (nN ⟨e,fr,n,ops,m,vs,sl,p0,p1,p2,k,bx,tg,sE,sS⟩)),some (.sl 35 1 (j+1) [.gen (j+1) (T j)])]⟩) ?_ (h2:=by(try dsimp only);rw[H0.out];rfl))
 intro j hj hl
 unfold nN
 by_cases h:j<N
 ·have h1:(j:Int)<(N:Int):=by omega
  obtain⟨⟨bm2,fr',e',zs',ad',k',ch',bM7,tag'⟩,hw,hw1,hw2⟩:=(show ∃w,W j=kJ w/\sM w/\kW w=true from by have:=hW j h;unfold okW at this;exact this)
  have HW:=yHd hw
  unfold kJ at hw
  dsimp only at hw
  refine ah ?_
  rw[hw]
  refine ah ?_
  intro L' B' hL' hB'
  have HL:=yHd hL';have HB:=yHd hB'
  clear hL' hB'
  refine ah ?_
  refine hl.go h [8,23,24,25] [0,1] ?_
  rw[HS.out,HW.out,show wN (kJ ⟨bm2,fr',e',zs',ad',k',ch',bM7,tag'⟩)=L' from by unfold wN;rw[Na,HL.out],show wB (kJ ⟨bm2,fr',e',zs',ad',k',ch',bM7,tag'⟩)=B' from by unfold wB;rw[Na,HB.out]]
  rfl
 ·obtain rfl:j=N:=by omega
  refine ah ?_;(try exact⟨⟩)
  done
def K7(N:Nat)(W:Nat->List Seg):Prop:=∀j,j<N->okW (W j)
def ar8:List A->(bC->Prop)->Prop
 |[.agg [.ints .i64 2 [e,fr],.gen 2 [.row n [.ints .i64 n5 ops],.row m [.ints .i64 m3 vs]],.ints .i64 4 [sl,p0,p1,p2],.gen 1 [.row k [.gen k' bl]],.bytes 32 tg,.ints .i64 2 [sE,sS]],.recs N 108 W],K=>
  n5=n*5/\m3=m*3/\k'=k/\N<=1000/\K7 N W/\n<=3000/\m<=3000/\k<=3000/\∃bx:Nat->List UInt8,bl=vO bx k/\(∀j,j<k->(bx j).length<=6000)/\dA ⟨e,fr,n,ops,m,vs,sl,p0,p1,p2,k,bx,tg,sE,sS⟩=true/\
   ∀M T,M=N+1->T=ny ⟨e,fr,n,ops,m,vs,sl,p0,p1,p2,k,bx,tg,sE,sS⟩ W N->K (.t [.row M [.gen M T],.v (.int .i64 0)])
 |_,_=>False
theorem ar9:∀args K,ar8 args K->∃r,aV 55 args r/\K r:=by
 intro args K h
 unfold ar8 at h
 split at h
 ·obtain⟨rfl,rfl,rfl,h0,hw,h1,h2,h3,bx,rfl,h4,h5,h⟩:=h
  exact⟨_,SE _ _ _ _ _ _ _ _ _ _ _ _ _ _ _ h1 h2 h3 h4 h5 _ h0 _ hw,h _ _ rfl rfl⟩
 ·exact h.elim
def ai9:ak:=Vq.add 55 ar8 ar9 (.of Tryz.func55)
end
section
open Pm
def apL(x:Ap):List Value:=HL x.p++[.int .i64 x.k,.int .i64 x.e,.int .i64 x.s]
def wu(x:Ap):Array Value:=(apL x).toArray
def pQ(L:List Ap):List Value:=L.flatMap apL
theorem aa5(x:Ap)(hp:x.p.length=32):(wu x).size=35:=by simp[wu,apL,HL,hp]
theorem bm6{x:Ap}(h:RL D w [.bytes 32 x.p,.ints .i64 3 [x.k,x.e,x.s]] cs.toList):cs=wu x:=by
 obtain⟨c,d,h1,h2,h3,_⟩:=h.head
 obtain⟨_,rfl⟩:=h2.iZ
 obtain⟨_,rfl⟩:=h3.fB
 apply Array.toList_inj.1
 rw[h1];rfl
theorem Hg(x:Ap)(hp:x.p.length=32):RL D w [.bytes 32 x.p,.ints .i64 3 [x.k,x.e,x.s]] (wu x).toList:=
 RL.append (.ofBytes hp rfl) (RL.fI (k:=.i64) (n:=3) (zs:=[x.k,x.e,x.s]) rfl rfl)
theorem aa8:∃i,IB 112=some i/\i.agg=true/\i.bY=0/\i.Ko=[(0,32),(32,3)]/\i.zero=[.bytes 32 (List.replicate 32 0),.ints .i64 3 [0,0,0]]/\i.sz=35/\i.bytes=56:=⟨_,rfl,rfl,rfl,rfl,rfl,rfl,rfl⟩
theorem aE2(w:World)(x:Ap)(hp:x.p.length=32):(Instr.buildSlice 69 1 #[(0,.agg (wu x))]).run Tryz.prog w=.ok (.slice (some ⟨w.heap.size,0,none⟩) 1 1) (w.alloc (.cells (wu x) 112)):=by
 obtain⟨i,hY,ha,he,hpl,hz,hsz,_⟩:=aa8
 obtain⟨f,z,h1,h2,_,h3,h4⟩:=(Jc _ i hY).info
 have hfs:f.size=35:=h2.trans hsz
 rw[hz]at h4
 have hzr:=cZ (S:=fun _=>True) (w:=w) h4
 have hzl:z.cells.size=35:=by have:=hzr.len;simpa[dM,Seg.n]using this
 have hc:=uN z.cells (by omega) 1
 obtain⟨l',rfl,hf⟩:=lV (off:=fun q=>some (q*35,35)) (s:=⟨[.d (.agg [.bytes 32 x.p,.ints .i64 3 [x.k,x.e,x.s]])],[]⟩) (parts:=[(0,.tmp 0)]) (l:=[.bytes 32 (List.replicate 32 0),.ints .i64 3 [0,0,0]]) (K:=fun l=>l=[.bytes 32 x.p,.ints .i64 3 [x.k,x.e,x.s]]) ⟨by decide,rfl,rfl⟩
 obtain⟨cs',h5,h6⟩:=hf (D:=fun _=>True) (w:=w) (ρ:=fun _=>none) (fun _=>.agg (wu x)) ((Array.range (1*f.size)).map (z.cells[·%z.cells.size]!)) (fun q hq=>by
  rcases List.mem_cons.1 hq with rfl|hq
  ·have:=RA.agg (Hg (D:=fun _=>True) (w:=w) x hp);exact this
  ·cases hq) (by rw[hfs,<-hzl,hc];simpa using hzr)
 rw[bm6 h6]at h5
 have hu:Tryz.prog.underlying 69=some (.slice 112):=Tryz.underlying69
 exact run_buildSlice (P:=Tryz.prog) w 69 112 1 #[(0,.agg (wu x))] (wu x) f z hu h1 h3 (by rw[hfs];decide) (by rw[hfs];decide) (by rw[<-hfs]at h5;exact h5)
theorem Xh(w:World){L:List Ap}{g:Nat}(x:Ap)(hp:x.p.length=32)(ty:TypeId)(hL:L.length<=1000000)(ho:w.ownsRow 0 112 35 v L.length (pQ L))(hg:aM w g (wu x) 112):
  ∃v' w',(Builtin.append_ #[69,69] ty #[v,.slice (some ⟨g,0,none⟩) 1 1]).run Tryz.prog w=.ok v' w'/\w'.ownsRow 0 112 35 v' (L.length+1) (pQ (L++[x]))/\w.grownBy w' v.ownBlock/\(v'.ownBlock=v.ownBlock\/v'.ownBlock=some w.heap.size):=by
 obtain⟨i,hY,ha,he,hpl,hz,hsz,hby⟩:=aa8
 obtain⟨f,z,h1,h2,h2b,h3,h4⟩:=(Jc _ i hY).info
 have hfs:f.size=35:=h2.trans hsz
 rw[hz]at h4
 have hzr:=cZ (S:=fun _=>True) (w:=w) h4
 have hzl:z.cells.size=35:=by have:=hzr.len;simpa[dM,Seg.n]using this
 obtain⟨v',w',k1,k2,k3,_,k5⟩:=run_append_own_at (P:=Tryz.prog) w 0 69 ty 112 f z 35 56 Tryz.underlying69 h1 h3 hfs (h2b.trans hby) hzl (by decide) v L.length (pQ L) ho ⟨g,0,none⟩ 1 1 (wu x).toList (by rw[Array.length_toList,aa5 x hp]) (fun j u hu=>by
   rw[mP,Nat.zero_add,hg.cell j,<-Array.getElem?_toList];exact hu) (Hg (D:=fun _=>True) (w:=w) x hp).one (by unfold maxLen;omega) (by omega) (Nat.zero_le _)
 refine⟨v',w',k1,?_,k3,k5⟩
 have:pQ (L++[x])=pQ L++(wu x).toList:=by simp[pQ,wu]
 rw[this];exact k2
end
section
open Pm
theorem um(x:Ap)(h:x.p.length=32):(apL x).length=35:=by simp[apL,HL,h]
theorem Nt(L:List Ap)(h:∀x∈L,x.p.length=32):(pQ L).length=L.length*35:=by
 induction L with
 |nil=>rfl
 |cons x L ih=>
  unfold pQ at ih ⊢
  rw[List.flatMap_cons,List.length_append,ih (fun y hy=>h y (by simp[hy])),um x (h x (by simp)),List.length_cons];omega
theorem aL2(L:List Ap)(h:∀x∈L,x.p.length=32):∀(j i:Nat),j<L.length->i<35->(pQ L)[j*35+i]?=(apL (L.getD j K9))[i]?:=by
 induction L with
 |nil=>intro j i hj;exact absurd hj (by simp)
 |cons x L ih=>
  intro j i hj hi
  have hx:=um x (h x (by simp))
  unfold pQ at ih ⊢
  rw[List.flatMap_cons]
  cases j with
  |zero=>rw[List.getElem?_append_left (by omega)];simp
  |succ j=>
   rw[List.getElem?_append_right (by omega),hx,show(j+1)*35+i-35=j*35+i by omega,ih (fun y hy=>h y (by simp[hy])) j i (by simpa using hj) hi]
   simp
theorem be5{L:List Ap}(ho:w.ownsRow 0 112 35 v L.length (pQ L))(hl:∀x∈L,x.p.length=32):RA (fun _=>True) w (.recs L.length 35 (apF L)) v:=by
 rcases ho.2 with⟨e1,e2⟩|⟨q,cap,cur,rfl,_,h5,h6,h7,h8,h9⟩
 ·rw[e1,e2]
  exact .recs (cs:=fun _=>[]) (fun j hj=>absurd hj (by omega)) (yLr _) (Nat.zero_le _) (fun _=>rfl) (.inl rfl)
 ·refine .recs (cs:=fun j=>apL (L.getD j K9)) (fun j hj=>?_) h6 h7 (fun e=>by cases e) (.inr ⟨q,0,rfl,fun j hj=>.inr ⟨q,0+j*35,rfl,trivial,(yAe.1 h5).1,fun i hi=>?_⟩⟩)
  ·have hm:L.getD j K9∈L:=by rw[yGd,yGe hj];exact List.getElem_mem hj
   exact Hg (L.getD j K9) (hl _ hm)
  ·have hm:L.getD j K9∈L:=by rw[yGd,yGe hj];exact List.getElem_mem hj
   have hi2:i<35:=by rw[um _ (hl _ hm)]at hi;exact hi
   have hn:=Nt L hl
   rw[cell_of_row w q (0+j*35+i) cur _ (0,0) h5,Nat.zero_add]
   have:(cur.toList.take (L.length*35))[j*35+i]?=(pQ L)[j*35+i]?:=by rw[h9]
   rw[List.getElem?_take,if_pos (by omega),Array.getElem?_toList,aL2 L hl j i hj hi2]at this
   rw[this,yGe hi]
theorem T9{S:Nat->Prop}{w:World}:∀{ps:List Value},(∀x∈ps,x.oneCell'=true)->RG S w (ps.map A.v) ps
 |[],_=>.nil
 |x::ps,h=>.cons (.v x) (h x (by simp)) (T9 fun y hy=>h y (by simp[hy]))
theorem zX{n:Nat}{xs:List Value}(h:w.ownsRow 0 112 35 v n xs):∃ad c,v=.slice ad n c:=by
 rcases h.2 with⟨e1,e2⟩|⟨q,cap,cur,rfl,_⟩
 ·rw[e1,e2];exact⟨_,_,rfl⟩
 ·exact⟨_,_,rfl⟩
theorem bd4{t:TypeId}{mu n:Int}{L:List Ap}(hb:aM w r (vF n mu (ps++[v1,v])).toArray t)(h16:ps.length=16)(h1:∀x∈ps,x.oneCell'=true)(h2:v1.oneCell'=true)(ho:w.ownsRow 0 112 35 v L.length (pQ L))(hl:∀x∈L,x.p.length=32):
  RA (fun _=>True) w (.sref (uf n mu (ps.map A.v) (.v v1) (.recs L.length 35 (apF L))) 0) (.pointer (some ⟨r,0,none⟩)):=by
 have hv:=be5 ho hl
 have hv1:v.oneCell'=true:=by obtain⟨ad,c,rfl⟩:=zX ho;rfl
 have hR:RL (fun _=>True) w (uf n mu (ps.map A.v) (.v v1) (.recs L.length 35 (apF L))) (vF n mu (ps++[v1,v])).toArray.toList:=by
  have h3:=RL.append (.fI (k:=.i64) (n:=1) (zs:=[n]) rfl rfl) (RL.append (.fI (k:=.i32) (n:=1) (zs:=[mu]) rfl rfl) (RL.append (.fI (k:=.u32) (n:=1) (zs:=[0]) rfl rfl) (RL.append (RL.iL (S:=fun _=>True) (w:=w) (n:=16) (by simp[h16]) (T9 h1)) (.iL (n:=2) rfl (.cons (.v v1) h2 (.cons hv hv1 .nil))))))
  exact h3
 refine .sref (off:=0) hR (.inr ⟨r,0,rfl,trivial,(yAe.1 hb).1,fun i hi=>?_⟩)
 rw[Nat.zero_add,fU hb i,yGe hi]
theorem Qn{t:TypeId}{mu n:Int}{L:List Ap}(hG:pI gTab (fun _=>True) w)(p:List UInt8)(k:Int)(hp:p.length=32)(hL:L.length<=1000000)(hb:aM w r (vF n mu (ps++[v1,v])).toArray t)(h16:ps.length=16)(h1:∀x∈ps,x.oneCell'=true)(h2:v1.oneCell'=true)(ho:w.ownsRow 0 112 35 v L.length (pQ L))(hl:∀x∈L,x.p.length=32):
  Calls Tryz.prog 82 #[.pointer (some ⟨r,0,none⟩),.agg (HC p),.int .i64 k] w fun x w'=>x=.returned (.tuple #[.agg ((jU L p k).map (Value.int .i64)).toArray,.bool (gW L p k)])/\Below w.heap.size w w':=by
 refine(WK n mu (ps.map A.v) (.v v1) L p k hL (fun _=>True) w [.pointer (some ⟨r,0,none⟩),.agg (HC p),.int .i64 k] hG (.cons (bd4 hb h16 h1 h2 ho hl) (.cons (.agg (.ofBytes hp rfl)) (.cons (.v _) .nil)))).mono ?_
 rintro x w' ⟨v',rfl,⟨vs,rfl,h2⟩,h3⟩
 cases h2 with
 |cons h2 h4=>cases h4 with
  |cons h4 h5=>
   cases h5;cases h4
   cases h2 with
   |agg k=>obtain⟨_,rfl⟩:=k.fB;exact⟨rfl,h3⟩
end
section
open Pm
theorem UF{n mu:Int}(h:ps.length=16):(vF n mu (ps++[v1,v])).toArray[20]?=some v:=by
 simp[vF,h]
theorem bd2{n mu:Int}(h:ps.length=16):(vF n mu (ps++[v1,v])).toArray.setIfInBounds 20 v'=(vF n mu (ps++[v1,v'])).toArray:=by
 apply Array.toList_inj.1
 simp[vF,h,List.set_append]
def NU(r:Nat)(V:Value)(x:Ap):Nat->Option Value
 |0=>some (.pointer (some ⟨r,0,none⟩))
 |1=>some (.pointer (some ⟨r,0,none⟩))
 |2=>some (.pointer (some ⟨r,0,none⟩))
 |3=>some (.pointer (some ⟨r,20,none⟩))
 |4=>some V
 |5=>some (.agg (wu x))
 |8=>some (.pointer (some ⟨r,0,none⟩))
 |9=>some (.pointer (some ⟨r,20,none⟩))
 |_=>none
structure JT(w3:World)(r A0:Nat)(t:TypeId)(V:Value)(L:List Ap)(n mu:Int)(ps:List Value)(v1:Value)(x:Ap)(S:Nat->Bool)(vals:Nat->Value)(w:World):Prop where
 grown:bX (fun k=>k=r\/V.ownBlock=some k) w3 w
 paper:aM w A0 (wu x) 112
 val:∀k y,S k=true->NU r V x k=some y->vals k=y
 x6:S 6=true->∃g,vals 6=.slice (some ⟨g,0,none⟩) 1 1/\aM w g (wu x) 112/\w3.heap.size<=g
 old:S 7=false->w.ownsRow 0 112 35 V L.length (pQ L)
 new:S 7=true->w.ownsRow 0 112 35 (vals 7) (L.length+1) (pQ (L++[x]))/\((vals 7).ownBlock=V.ownBlock\/∃q,(vals 7).ownBlock=some q/\w3.heap.size<=q)
 uq:S 10=false->aM w r (vF n mu (ps++[v1,V])).toArray t
 ab4:S 10=true->aM w r (vF n mu (ps++[v1,vals 7])).toArray t
 seq:S 10=true->S 7=true
section
variable {w3 : World} {r A0 : Nat} {t : TypeId} {V : Value} {L : List Ap} {n mu : Int} {ps : List Value} {v1 : Value} {x : Ap} {S : Nat -> Bool} {vals : Nat -> Value} {w : World}
theorem JT.pure(h:JT w3 r A0 t V L n mu ps v1 x S vals w){z:Value}(hc:NU r V x i=some z):JT w3 r A0 t V L n mu ps v1 x (add1 S i) (fun j=>if j=i then z else vals j) w:=by
 have n6:6≠i:=by rintro rfl;cases hc
 have n7:7≠i:=by rintro rfl;cases hc
 have n10:10≠i:=by rintro rfl;cases hc
 have s6:=aA S n6;have s7:=aA S n7;have s10:=aA S n10
 have v6:=gG vals i z n6;have v7:=gG vals i z n7
 refine⟨h.grown,h.paper,fun k y hk hy=>?_,fun hk=>?_,fun hk=>?_,fun hk=>?_,fun hk=>?_,fun hk=>?_,fun hk=>?_⟩
 ·by_cases e1:k=i
  ·subst e1;rw[hc]at hy;cases hy;exact if_pos rfl
  ·rw[aA S e1]at hk;rw[gG vals i z e1];exact h.val k y hk hy
 ·rw[s6]at hk;rw[v6];exact h.x6 hk
 ·rw[s7]at hk;exact h.old hk
 ·rw[s7]at hk;rw[v7];exact h.new hk
 ·rw[s10]at hk;exact h.uq hk
 ·rw[s10]at hk;rw[v7];exact h.ab4 hk
 ·rw[s10]at hk;rw[s7];exact h.seq hk
theorem lJ{n:Nat}{xs:List Value}(h:w.ownsRow 0 112 35 v n xs)(hk:∀q,v.ownBlock=some q->q<w.heap.size->w'.heap[q]?=w.heap[q]?):w'.ownsRow 0 112 35 v n xs:=by
 refine⟨h.1,?_⟩
 rcases h.2 with h1|⟨q,cap,cur,e,h2,h3,h4⟩
 ·exact .inl h1
 ·exact .inr ⟨q,cap,cur,e,h2,(hk q (by rw[e];rfl) (yAe.1 h3).1).trans h3,h4⟩
theorem JT.alloc(h:JT w3 r A0 t V L n mu ps v1 x S vals w)(h7:S 7=false)(h10:S 10=false):JT w3 r A0 t V L n mu ps v1 x (add1 S 6) (fun j=>if j=6 then .slice (some ⟨w.heap.size,0,none⟩) 1 1 else vals j) (w.alloc (.cells (wu x) 112)):=by
 have s7:=aA S (show 7≠6 by decide);have s10:=aA S (show 10≠6 by decide)
 have ka:∀q,q<w.heap.size->(w.alloc (.cells (wu x) 112)).heap[q]?=w.heap[q]?:=fun q hq=>Below.heap_alloc _ _ _ hq
 refine⟨⟨h.grown.os,h.grown.tape,h.grown.output,by rw[size_alloc];have:=h.grown.size;omega,fun k hk hn=>(ka k (yLl hk h.grown.size)).trans (h.grown.block k hk hn)⟩,(ka _ h.paper.lt).trans h.paper,fun k y hk hy=>?_,fun _=>⟨w.heap.size,if_pos rfl,heap_alloc_new _ _,h.grown.size⟩,fun hk=>lJ (h.old h7) fun q _ hq=>ka q hq,fun hk=>?_,fun hk=>(ka _ (h.uq h10).lt).trans (h.uq h10),fun hk=>?_,fun hk=>?_⟩
 ·have e1:k≠6:=by rintro rfl;cases hy
  rw[aA S e1]at hk;rw[gG vals 6 _ e1];exact h.val k y hk hy
 ·rw[s7,h7]at hk;cases hk
 ·rw[s10,h10]at hk;cases hk
 ·rw[s10,h10]at hk;cases hk
theorem JT.app(h:JT w3 r A0 t V L n mu ps v1 x S vals w)(h7:S 7=false)(h10:S 10=false)(hown:w'.ownsRow 0 112 35 v' (L.length+1) (pQ (L++[x])))(hg:w.grownBy w' V.ownBlock)(hv:v'.ownBlock=V.ownBlock\/v'.ownBlock=some w.heap.size)(h1:V.ownBlock≠some r)(h2:V.ownBlock≠some A0)(h3:∀q,V.ownBlock=some q->q<w3.heap.size):
  JT w3 r A0 t V L n mu ps v1 x (add1 S 7) (fun j=>if j=7 then v' else vals j) w':=by
 have s6:=aA S (show 6≠7 by decide);have s10:=aA S (show 10≠7 by decide)
 have ka:∀q,q<w.heap.size->V.ownBlock≠some q->w'.heap[q]?=w.heap[q]?:=fun q hq hn=>hg.block q hq (fun e=>hn e.symm)
 have hm:∀q,V.ownBlock=some q->q<w3.heap.size:=h3
 refine⟨⟨hg.os.trans h.grown.os,hg.tape.trans h.grown.tape,hg.output.trans h.grown.output,yLt h.grown.size hg.size,fun k hk hn=>(ka k (yLl hk h.grown.size) (fun e=>hn (.inr e))).trans (h.grown.block k hk hn)⟩,(ka _ h.paper.lt h2).trans h.paper,fun k y hk hy=>?_,fun hk=>?_,fun hk=>?_,fun _=>?_,fun hk=>(ka _ (h.uq h10).lt h1).trans (h.uq h10),fun hk=>?_,fun _=>jc S 7⟩
 ·have e1:k≠7:=by rintro rfl;cases hy
  rw[aA S e1]at hk;rw[gG vals 7 _ e1];exact h.val k y hk hy
 ·rw[s6]at hk
  obtain⟨g,k1,k2,k3⟩:=h.x6 hk
  refine⟨g,by rw[gG vals 7 _ (show 6≠7 by decide)];exact k1,(ka g k2.lt (fun e=>?_)).trans k2,k3⟩
  have:=hm g e;omega
 ·rw[jc]at hk;cases hk
 ·show World.ownsRow w' 0 _ 35 v' _ _/\(v'.ownBlock=V.ownBlock\/_)
  refine⟨hown,hv.imp id fun e=>⟨_,e,h.grown.size⟩⟩
 ·rw[s10,h10]at hk;cases hk
theorem JT.store(h:JT w3 r A0 t V L n mu ps v1 x S vals w)(h16:ps.length=16)(h7:S 7=true)(h10:S 10=false)(hA:A0≠r)(hr:r<w3.heap.size)(h1:V.ownBlock≠some r)(z:Value):JT w3 r A0 t V L n mu ps v1 x (add1 S 10) (fun j=>if j=10 then z else vals j) (w.setCell ⟨r,20,none⟩ (vals 7)):=by
 have s6:=aA S (show 6≠10 by decide);have s7:=aA S (show 7≠10 by decide)
 have v6:=gG vals 10 z (show 6≠10 by decide);have v7:=gG vals 10 z (show 7≠10 by decide)
 have ka:∀q,q≠r->(w.setCell ⟨r,20,none⟩ (vals 7)).heap[q]?=w.heap[q]?:=fun q hq=>heap_setCell_other w ⟨r,20,none⟩ q _ hq
 have hs:(w.setCell ⟨r,20,none⟩ (vals 7)).heap.size=w.heap.size:=by simp[World.setCell]
 have hb:aM (w.setCell ⟨r,20,none⟩ (vals 7)) r (vF n mu (ps++[v1,vals 7])).toArray t:=((h.uq h10).set 20 _).copy (bd2 h16)
 obtain⟨n1,n2⟩:=h.new h7
 have hnr:∀q,(vals 7).ownBlock=some q->q≠r:=fun q hq e1=>by
  subst e1
  rcases n2 with n2|⟨q',n2,n3⟩
  ·rw[n2]at hq;exact h1 hq
  ·rw[n2]at hq;cases hq;omega
 refine⟨⟨h.grown.os,h.grown.tape,h.grown.output,by rw[hs];exact h.grown.size,fun k hk hn=>(ka k (fun e=>hn (.inl e))).trans (h.grown.block k hk hn)⟩,(ka _ hA).trans h.paper,fun k y hk hy=>?_,fun hk=>?_,fun hk=>?_,fun _=>?_,fun hk=>?_,fun _=>by rw[v7];exact hb,fun _=>by rw[s7];exact h7⟩
 ·have e1:k≠10:=by rintro rfl;cases hy
  rw[aA S e1]at hk;rw[gG vals 10 _ e1];exact h.val k y hk hy
 ·rw[s6]at hk
  obtain⟨g,k1,k2,k3⟩:=h.x6 hk
  exact⟨g,by rw[v6];exact k1,(ka g (by omega)).trans k2,k3⟩
 ·rw[s7,h7]at hk;cases hk
 ·rw[v7]
  exact⟨lJ n1 fun q hq _=>ka q (hnr q hq),n2⟩
 ·rw[jc]at hk;cases hk
end
end
section
open Pm
theorem opc{P:Program}{ops:Array Oper}{o:Oper}{args:Array Value}{F:Value->World->Prop}(hg:o.guard=none)(h:(execOp a.eval o).run P w=.ok (.enter f args) w)(hc:Calls P f args w fun e w'=>∃v,e=.returned v/\F (keeps o.dst v) w'):mX P ops (fun _ _=>True) o a w F:=by
 unfold mX
 simp only[Region.wanted,hg,h,if_true]
 exact hc.mono fun e w' ⟨v,h1,h2⟩=>⟨v,h1,trivial,h2⟩
abbrev Ng:Obj:=.cells (BC 0 (.slice none 0 0) 0 0) 92
structure Z6(w0:World)(r:Nat)(t:TypeId)(j:Nat)(bs:List Value)(w:World):Prop where
 blk:aM w r (WL 0 0 (List.replicate 8 (.pointer none)) bs (.slice none 0 0) (.slice none 0 0)).toArray t
 len:bs.length=8
 at':∀i,i<j->∃q,bs[i]?=some (.pointer (some ⟨q,0,none⟩))/\w.heap[q]?=some Ng/\r<q
 ne:∀i k q,i<j->k<j->bs[i]?=some (.pointer (some ⟨q,0,none⟩))->bs[k]?=some (.pointer (some ⟨q,0,none⟩))->i=k
 base:w0.heap.size<=r
 below:Below w0.heap.size w0 w
theorem cn5{n mu:Int}{ps bs:List Value}{po ap:Value}(hp:ps.length=8)(hi:i<bs.length)(v:Value):(WL n mu ps bs po ap).toArray.setIfInBounds (11+i) v=(WL n mu ps (bs.set i v) po ap).toArray:=by
 rw[List.setIfInBounds_toArray]
 congr 1
 rw[show 11+i=i+8+3 by omega]
 show _::_::_::(ps++(bs++[po,ap])).set (i+8) v=_
 rw[List.set_append_right _ _ (by omega),show i+8-ps.length=i by omega,List.set_append_left _ _ hi]
 rfl
theorem Z6.next{w0 w1:World}{t:TypeId}{bs:List Value}(h:Z6 w0 r t j bs w1)(hj:j<8):Z6 w0 r t (j+1) (bs.set j (.pointer (some ⟨w1.heap.size,0,none⟩))) ((w1.drew.alloc Ng).setCell ⟨r,11+j,none⟩ (.pointer (some ⟨w1.heap.size,0,none⟩))):=by
 have hr:r<w1.heap.size:=h.blk.lt
 have hsz:w1.drew.heap.size=w1.heap.size:=rfl
 have hother:∀q,q≠r->((w1.drew.alloc Ng).setCell ⟨r,11+j,none⟩ (.pointer (some ⟨w1.heap.size,0,none⟩))).heap[q]?=(w1.drew.alloc Ng).heap[q]?:=fun q hq=>heap_setCell_other _ ⟨r,11+j,none⟩ q _ hq
 have hold:∀q,q<w1.heap.size->q≠r->((w1.drew.alloc Ng).setCell ⟨r,11+j,none⟩ (.pointer (some ⟨w1.heap.size,0,none⟩))).heap[q]?=w1.heap[q]?:=fun q hq hn=>by
  rw[hother q hn]
  exact Below.heap_alloc w1.drew Ng q hq
 have hnew:((w1.drew.alloc Ng).setCell ⟨r,11+j,none⟩ (.pointer (some ⟨w1.heap.size,0,none⟩))).heap[w1.heap.size]?=some Ng:=by
  rw[hother _ (by omega)]
  exact heap_alloc_new _ _
 have hb:aM (w1.drew.alloc Ng) r (WL 0 0 (List.replicate 8 (.pointer none)) bs (.slice none 0 0) (.slice none 0 0)).toArray t:=World.nL h.blk.drew
 have hget:∀i,(bs.set j (.pointer (some ⟨w1.heap.size,0,none⟩)))[i]?=if i=j then some (.pointer (some ⟨w1.heap.size,0,none⟩))else bs[i]?:=fun i=>by
  rw[List.getElem?_set]
  by_cases e:j=i
  ·rw[if_pos e,if_pos e.symm,if_pos (by rw[h.len];omega)]
  ·rw[if_neg e,if_neg (fun e'=>e e'.symm)]
 refine⟨(hb.set (11+j) _).copy (cn5 rfl (by rw[h.len];exact hj) _),by rw[List.length_set];exact h.len,fun i hi=>?_,fun i k q hi hk e1 e2=>?_,h.base,?_⟩
 ·rw[hget]
  by_cases e:i=j
  ·rw[if_pos e];exact⟨_,rfl,hnew,hr⟩
  ·rw[if_neg e]
   obtain⟨q,k1,k2,k3⟩:=h.at' i (by omega)
   exact⟨q,k1,by rw[hold q (yAe.1 k2).1 (by omega)];exact k2,k3⟩
 ·rw[hget]at e1 e2
  by_cases a1:i=j
  ·by_cases a2:k=j
   ·rw[a1,a2]
   ·exfalso
    rw[if_pos a1]at e1;rw[if_neg a2]at e2
    cases e1
    obtain⟨q,k1,k2,_⟩:=h.at' k (by omega)
    rw[k1]at e2;cases e2
    exact Nat.lt_irrefl _ (yAe.1 k2).1
  ·by_cases a2:k=j
   ·exfalso
    rw[if_neg a1]at e1;rw[if_pos a2]at e2
    cases e2
    obtain⟨q,k1,k2,_⟩:=h.at' i (by omega)
    rw[k1]at e1;cases e1
    exact Nat.lt_irrefl _ (yAe.1 k2).1
   ·rw[if_neg a1]at e1;rw[if_neg a2]at e2
    exact h.ne i k q (by omega) (by omega) e1 e2
 ·have hb1:=h.below
  refine⟨hb1.os,hb1.tape,hb1.output,?_,fun q hq=>?_⟩
  ·show w0.heap.size<=((w1.drew.alloc Ng).setCell _ _).heap.size
   simp[World.setCell,size_alloc]
   exact Nat.le_succ_of_le hb1.size
  ·have:=h.base
   rw[hold q (yLl hq hb1.size) (by omega)]
   exact hb1.block q hq
def RN(r j:Nat):Nat->Option Value
 |0=>some (.pointer (some ⟨r,0,none⟩))
 |1=>some (.int .i64 (j:Nat))
 |3=>some (.pointer (some ⟨r,0,none⟩))
 |4=>some (.pointer (some ⟨r,11,none⟩))
 |5=>some (.pointer (some ⟨r,11+j,none⟩))
 |_=>none
structure JN(w3:World)(r j:Nat)(S:Nat->Bool)(vals:Nat->Value)(w:World):Prop where
 val:∀k x,S k=true->RN r j k=some x->vals k=x
 x2:S 2=true->vals 2=.pointer (some ⟨w3.heap.size,0,none⟩)
 w0:S 2=false->w=w3
 w1:S 2=true->S 6=false->w=w3.alloc Ng
 w2:S 6=true->w=(w3.alloc Ng).setCell ⟨r,11+j,none⟩ (.pointer (some ⟨w3.heap.size,0,none⟩))
section
variable {w3 : World} {r j : Nat} {S : Nat -> Bool} {vals : Nat -> Value} {w : World}
theorem JN.pure(h:JN w3 r j S vals w)(hc:RN r j i=some x):JN w3 r j (add1 S i) (fun k=>if k=i then x else vals k) w:=by
 have n2:2≠i:=by rintro rfl;cases hc
 have n6:6≠i:=by rintro rfl;cases hc
 have s2:=aA S n2;have s6:=aA S n6
 refine⟨fun k y hk hy=>?_,fun hk=>?_,fun hk=>?_,fun hk h6=>?_,fun hk=>?_⟩
 ·by_cases e1:k=i
  ·subst e1;rw[hc]at hy;cases hy;exact if_pos rfl
  ·rw[aA S e1]at hk;rw[gG vals i x e1];exact h.val k y hk hy
 ·rw[s2]at hk;rw[gG vals i x n2];exact h.x2 hk
 ·rw[s2]at hk;exact h.w0 hk
 ·rw[s2]at hk;rw[s6]at h6;exact h.w1 hk h6
 ·rw[s6]at hk;exact h.w2 hk
theorem JN.call(h:JN w3 r j S vals w)(h2:S 2=false)(h6:S 6=false):JN w3 r j (add1 S 2) (fun k=>if k=2 then .pointer (some ⟨w.heap.size,0,none⟩)else vals k) (w.alloc Ng):=by
 have e:=h.w0 h2
 subst e
 have s6:=aA S (show 6≠2 by decide)
 refine⟨fun k y hk hy=>?_,fun _=>if_pos rfl,fun hk=>?_,fun _ _=>rfl,fun hk=>?_⟩
 ·have e1:k≠2:=by rintro rfl;cases hy
  rw[aA S e1]at hk;rw[gG vals 2 _ e1];exact h.val k y hk hy
 ·rw[jc]at hk;cases hk
 ·rw[s6,h6]at hk;cases hk
theorem JN.store(h:JN w3 r j S vals w)(h2:S 2=true)(h6:S 6=false)(x:Value):JN w3 r j (add1 S 6) (fun k=>if k=6 then x else vals k) (w.setCell ⟨r,11+j,none⟩ (vals 2)):=by
 have e:=h.w1 h2 h6
 have s2:=aA S (show 2≠6 by decide)
 refine⟨fun k y hk hy=>?_,fun _=>?_,fun hk=>?_,fun _ hk=>?_,fun hk=>?_⟩
 ·have e1:k≠6:=by rintro rfl;cases hy
  rw[aA S e1]at hk;rw[gG vals 6 _ e1];exact h.val k y hk hy
 ·rw[gG vals 6 _ (show 2≠6 by decide)];exact h.x2 h2
 ·rw[s2,h2]at hk;cases hk
 ·rw[jc]at hk;cases hk
 ·rw[h.x2 h2,e]
end
noncomputable def bx2:ak:=oW.add 18 xG (qy BH) (.of Tryz.func18)
noncomputable def aj3:ak:=bx2.add 17 uz Fp (.of Tryz.func17)
theorem Ww{S:Nat->Prop}{w:World}:∀{l:List Value},(∀x∈l,x.oneCell'=true)->RG S w (l.map .v) l
 |[],_=>.nil
 |x::l,h=>.cons (.v _) (h x (by simp)) (Ww fun y hy=>h y (by simp[hy]))
theorem Yo(S:Nat->Prop)(w:World)(hG:pI gTab S w):Calls Tryz.prog 6 #[] w fun e w'=>∃bs:List Value,e=.returned (.pointer (some ⟨w.heap.size,0,none⟩))/\bs.length=8/\(∀i,i<8->∃q,bs[i]?=some (.pointer (some ⟨q,0,none⟩))/\w'.heap[q]?=some Ng/\w.heap.size<q)/\
  (∀i k q,i<8->k<8->bs[i]?=some (.pointer (some ⟨q,0,none⟩))->bs[k]?=some (.pointer (some ⟨q,0,none⟩))->i=k)/\Below w.heap.size w w'/\
  HB (fun z=>((S z/\z<w.heap.size)\/w.heap.size<z)/\∀i,i<8->bs[i]?≠some (.pointer (some ⟨z,0,none⟩))) w' w.heap.size (.var (uf 0 0 ((D9 8++bs.map A.v).set 0 (.sref (aP (bD (qU 0))) 0)) (.v (.slice none 0 0)) (.v (.slice none 0 0)))):=by
 go_enter Tryz.func6,Tryz.ntmps6
 go_wp2_with fail
 rename_i Q K ha
 have h0:Z6 w w.heap.size 71 0 (List.replicate 8 (.pointer none)) (w.alloc (.cells (WL 0 0 (List.replicate 8 (.pointer none)) (List.replicate 8 (.pointer none)) (.slice none 0 0) (.slice none 0 0)).toArray 71)):=
  ⟨heap_alloc_new _ _,rfl,fun i hi=>absurd hi (by omega),fun i k q hi=>absurd hi (by omega),yLr _,(Below.refl _ _).alloc (yLr _) _⟩
 refine wp_loop (fun a w'=>∃(j:Nat) (bs:List Value) (x2 x6 x7 x8 x9 x10 x11 x12 x13 x14:Value),j<=8/\Z6 w w.heap.size 71 j bs w'/\a=⟨#[.pointer none,.pointer (some ⟨w.heap.size,0,none⟩),x2,.agg (WL 0 0 (List.replicate 8 (.pointer none)) (List.replicate 8 (.pointer none)) (.slice none 0 0) (.slice none 0 0)).toArray,.pointer (some ⟨w.heap.size,0,none⟩),.int .i64 (j:Nat),x6,x7,x8,x9,x10,x11,x12,x13,x14,undef,undef,undef,undef,undef,undef,undef],[]⟩)
  (fun a w'=>8- (intOf (a.tmps.getD 5 undef)).toNat) ⟨0,_,undef,undef,undef,undef,undef,undef,undef,undef,undef,undef,by omega,h0,rfl⟩ ?_
 rintro a w1 ⟨j,bs,x2,x6,x7,x8,x9,x10,x11,x12,x13,x14,hj,hN,rfl⟩
 have HN:=yHd hN
 have HA:=yHd ha
 have H0:=yHd h0
 clear hN h0 ha
 by_cases h8:j<8
 ·have i8:(j:Int)<8:=by omega
  go_wp2_with fail
  have hlt:w.heap.size<w1.heap.size:=HN.out.blk.lt
  refine ku (JN w1.drew w.heap.size j) [[],[],[],[0],[3],[4,1],[5,2]] (by kernel_rfl) (by kernel_rfl) (by kernel_rfl) ⟨fun k x hk=>Bool.noConfusion hk,fun hk=>Bool.noConfusion hk,fun _=>rfl,fun hk=>Bool.noConfusion hk,fun hk=>Bool.noConfusion hk⟩ ?_ ?_
  ·refine⟨?_,?_,?_,?_,?_,?_,?_,trivial⟩
   ·intro S vals wj hJ fK hD hcl
    have q:=hJ.pure (show RN w.heap.size j 0=some (.pointer (some ⟨w.heap.size,0,none⟩))from rfl)
    refine jX (v:=.pointer (some ⟨w.heap.size,0,none⟩)) (w2:=wj) rfl ?_ q
    simp[execOp,aG,Act.put,Act.eval,Instr.fieldAt,go_sem]
   ·intro S vals wj hJ fK hD hcl
    have q:=hJ.pure (show RN w.heap.size j 1=some (.int .i64 (j:Nat))from rfl)
    refine jX (v:=.int .i64 (j:Nat)) (w2:=wj) rfl ?_ q
    simp[execOp,aG,Act.put,Act.eval,Instr.fieldAt,go_sem]
   ·intro S vals wj hJ fK hD hcl
    have h6:S 6=false:=by cases h:S 6 with|false=>rfl|true=>have:=hcl 6 h 2 (by simp);rw[fK]at this;cases this
    refine opc (f:=16) (args:=#[]) rfl (by simp[execOp,aG,Act.put,Act.eval,resolve,invoke,go_sem]) ?_
    refine(au1 wj).mono ?_
    rintro e w' ⟨rfl,rfl⟩
    exact⟨_,rfl,hJ.call fK h6⟩
   ·intro S vals wj hJ fK hD hcl
    have d0:=hJ.val 0 _ (hD 0 (by simp)) rfl
    have q:=hJ.pure (show RN w.heap.size j 3=some (.pointer (some ⟨w.heap.size,0,none⟩))from rfl)
    refine jX (v:=.pointer (some ⟨w.heap.size,0,none⟩)) (w2:=wj) rfl ?_ q
    simp[execOp,aG,Act.put,Act.eval,Instr.fieldAt,go_sem,d0]
   ·intro S vals wj hJ fK hD hcl
    have d3:=hJ.val 3 _ (hD 3 (by simp)) rfl
    have q:=hJ.pure (show RN w.heap.size j 4=some (.pointer (some ⟨w.heap.size,11,none⟩))from rfl)
    refine jX (v:=.pointer (some ⟨w.heap.size,11,none⟩)) (w2:=wj) rfl ?_ q
    simp[execOp,aG,Act.put,Act.eval,Instr.fieldAt,go_sem,d3]
   ·intro S vals wj hJ fK hD hcl
    have d4:=hJ.val 4 _ (hD 4 (by simp)) rfl
    have d1:=hJ.val 1 _ (hD 1 (by simp)) rfl
    have q:=hJ.pure (show RN w.heap.size j 5=some (.pointer (some ⟨w.heap.size,11+j,none⟩))from rfl)
    refine jX (v:=.pointer (some ⟨w.heap.size,11+j,none⟩)) (w2:=wj) rfl ?_ q
    simp[execOp,aG,Act.put,Act.eval,Instr.fieldAt,go_sem,d4,d1,i8]
   ·intro S vals wj hJ fK hD hcl
    have d5:=hJ.val 5 _ (hD 5 (by simp)) rfl
    have d2:=hJ.x2 (hD 2 (by simp))
    have e1:=hJ.w1 (hD 2 (by simp)) fK
    have hbw:aM wj w.heap.size (WL 0 0 (List.replicate 8 (.pointer none)) bs (.slice none 0 0) (.slice none 0 0)).toArray 71:=by rw[e1];exact World.nL HN.out.blk.drew
    obtain⟨vo,AF⟩:∃vo,wj.cell? ⟨w.heap.size,11+j,none⟩=some vo:=by
     refine⟨_,(hbw.cell (11+j)).trans (Array.getElem?_eq_getElem ?_)⟩
     simp[WL,HN.out.len]
     omega
    have hfz:=hbw.frozen (11+j)
    refine ay0 rfl ?_ (hJ.store (hD 2 (by simp)) fK undef)
    simp[execOp,aG,Act.put,Act.eval,go_sem,d5,d2,hfz,AF]
  ·intro vals wz hJ
   have e0:=hJ.val 0 _ rfl rfl
   have e1:=hJ.val 1 _ rfl rfl
   have e3:=hJ.val 3 _ rfl rfl
   have e4:=hJ.val 4 _ rfl rfl
   have e5:=hJ.val 5 _ rfl rfl
   have e2:=hJ.x2 rfl
   have e6:=hJ.w2 rfl
   have hnx:=HN.out.next h8
   have e7:wz=(w1.drew.alloc Ng).setCell ⟨w.heap.size,11+j,none⟩ (.pointer (some ⟨w1.heap.size,0,none⟩)):=e6
   rw[<-e7]at hnx
   have HX:=yHd hnx
   clear hnx e6 e7
   simp[aG,List.range,List.range.loop,Act.put,e0,e1,e2,e3,e4,e5]
   clear hJ e0 e1 e2 e3 e4 e5
   have wj1:IntKind.i64.wrap ((j:Int)+1)=(j:Int)+1:=gH (by omega) (by omega)
   go_wp2_with fail
   refine⟨⟨j+1,_,_,_,_,_,_,_,_,_,_,_,by omega,HX.out,rfl⟩,?_⟩
   show 8- ((j:Int)+1).toNat<8- (j:Int).toNat
   omega
 ·have i8:¬(j:Int)<8:=by omega
  go_wp2_with fail
  refine HA.out _ _ ?_
  obtain rfl:j=8:=by omega
  have hN:=HN.out
  have hr:w.heap.size<w1.heap.size:=hN.blk.lt
  have hB:HB (Dt (fun z=>S z/\z<w.heap.size) w1.heap.size (fun b=>if b=0 then some (.pointer (some ⟨w.heap.size,0,none⟩))else none)) w1 w.heap.size (.var (uf 0 0 (D9 8++bs.map .v) (.v (.slice none 0 0)) (.v (.slice none 0 0)))):=by
   refine⟨_,_,hN.blk,?_⟩
   have g16:RG (Dt (fun z=>S z/\z<w.heap.size) w1.heap.size (fun b=>if b=0 then some (.pointer (some ⟨w.heap.size,0,none⟩))else none)) w1 (D9 8++bs.map .v) (List.replicate 8 (.pointer none)++bs):=by
    refine RG.append ?_ ?_
    ·exact .cons (.v _) rfl (.cons (.v _) rfl (.cons (.v _) rfl (.cons (.v _) rfl (.cons (.v _) rfl (.cons (.v _) rfl (.cons (.v _) rfl (.cons (.v _) rfl .nil)))))))
    ·have one:∀x∈bs,x.oneCell'=true:=fun x hx=>by
      obtain⟨i,hi,e⟩:=List.getElem_of_mem hx
      obtain⟨q,k1,_⟩:=hN.at' i (by rw[<-hN.len];exact hi)
      rw[yGe hi,e]at k1
      cases k1;rfl
     exact Ww one
   unfold WL uf
   have q:=RL.ints (k:=.i64) (n:=1) (zs:=[0]) rfl (RL.ints (k:=.i32) (n:=1) (zs:=[0]) rfl (RL.ints (k:=.u32) (n:=1) (zs:=[0]) rfl (RL.gen (n:=16) g16 (by simp[D9,hN.len]) (RL.gen (n:=2) (.cons (.v (.slice none 0 0)) rfl (.cons (.v (.slice none 0 0)) rfl .nil)) rfl .nil))))
   rw[List.append_nil,List.append_assoc]at q
   exact q
  have hG1:pI gTab (Dt (fun z=>S z/\z<w.heap.size) w1.heap.size (fun b=>if b=0 then some (.pointer (some ⟨w.heap.size,0,none⟩))else none)) w1:=by
   refine hG.up ⟨hN.below.size,fun z hz hd=>⟨⟨.inl ⟨hd,hz⟩,fun b u hb hu=>?_⟩,fun o=>World.cell?_of_block (hN.below.block z hz)⟩⟩
   dsimp only at hb
   split at hb
   ·cases hb
    obtain rfl:w.heap.size=z:=hu
    omega
   ·cases hb
  refine GX.out (E:=aj3) (S:=fun z=>S z/\z<w.heap.size) (base:=w1.heap.size) (w0:=⟨w1,fun q=>q=w.heap.size,some w.heap.size,[]⟩) (s:=⟨([.pointer none,.pointer (some ⟨w.heap.size,0,none⟩),x2,.agg (WL 0 0 (List.replicate 8 (.pointer none)) (List.replicate 8 (.pointer none)) (.slice none 0 0) (.slice none 0 0)).toArray,.pointer (some ⟨w.heap.size,0,none⟩),.int .i64 (8:Nat),.bool false,x7,x8,x9,x10,x11,x12,x13,x14,undef,undef,undef,undef,undef,undef,undef].map fun v=>T.d (.v v)).set 1 (.ptr 0 0),[some (.var (uf 0 0 (D9 8++bs.map .v) (.v (.slice none 0 0)) (.v (.slice none 0 0))))]⟩) ?_ (fun b=>if b=0 then some (.pointer (some ⟨w.heap.size,0,none⟩))else none) _ _ ?_
  rotate_left
  ·refine aT7 (E:=aj3) (S:=fun z=>S z/\z<w.heap.size) 1 (yLr _) ⟨_,rfl⟩ hr hG1 hB ?_ ?_ ?_ ?_
   ·rfl
   ·rfl
   ·exact Nat.le_of_ble_eq_true rfl
   ·rfl
  simp only[List.map_cons,List.map_nil,dz_0,RU,Seg.n,wn1,wn2,wn3,wn4,wn5,wn6,wn7,wn8,wn9,UG,UH,UJ,UK,UL,UM,UN,Int.reduceAdd,Int.zero_add,Seg.cell,Seg.sub,List.set_nil,jS,rZ,List.take_append_drop,St.app,St.qW,St.ev,List.getD_cons_zero,List.getD_cons_succ,List.getD_nil,St.sl,St.bk,mF,kD,pG,iX,bU,weaken,qF,List.set_cons_zero,List.set_cons_succ,List.length_cons,List.length_nil,List.cons_append,List.nil_append,List.append_nil,List.map_cons,List.map_nil,List.replicate_succ,List.replicate_zero,List.take_succ_cons,List.take_zero,List.drop_succ_cons,List.drop_zero,List.take_nil,List.drop_nil,Nat.reduceAdd,Nat.reduceSub,Nat.reduceMul,Nat.reduceEqDiff,Nat.reduceLT,Nat.reduceLeDiff,Nat.zero_add,Nat.add_zero,Nat.sub_self,Nat.sub_zero,Nat.one_mul,Nat.mul_one,Nat.zero_mul,kT,qH,List.flatten_cons,List.flatten_nil,eq_self,ite_true,if_true,if_false,↓reduceIte,reduceCtorEq,Int.reduceToNat]
  unfold uf
  refine GX.of ?_
  refine ah ?_
  intro h hh
  refine ah ?_
  intro p hp
  refine ah ?_
  obtain rfl:p=bD (qU 0):=by rw[hp,hh]
  refine GQ.mk fun ρ a w3 g=>?_
  have yB:=g.pin _ rfl
  have hv:=g.ev (.tmp 0)
  obtain⟨r',e1,e2⟩:=hv _ yB
  obtain rfl:=e1.ptr
  have hB3:=g.b 0
  obtain⟨r2,cs2,t2,k1,_,k2,k3⟩:=hB3
  rw[yB]at k1;cases k1
  have hsame:∀z,z<w1.heap.size->z≠w.heap.size->w3.heap[z]?=w1.heap[z]?:=fun z h1 h2=>g.iE.block z h1 h2
  have hbk:∀i,i<8->∃q,bs[i]?=some (.pointer (some ⟨q,0,none⟩))/\w3.heap[q]?=some Ng/\w.heap.size<q:=fun i hi=>by
   obtain⟨q,m1,m2,m3⟩:=hN.at' i hi
   exact⟨q,m1,by rw[hsame q (yAe.1 m2).1 (by omega)];exact m2,m3⟩
  have hlt:∀i z,i<8->bs[i]?=some (.pointer (some ⟨z,0,none⟩))->w.heap.size<z/\z<w1.heap.size:=fun i z hi e=>by
   obtain⟨q,m1,m2,m3⟩:=hN.at' i hi
   rw[m1]at e;cases e
   exact⟨m3,(yAe.1 m2).1⟩
  have hbw:Below w.heap.size w w3:=by
   have h1:=hN.below
   refine⟨g.iE.os.trans h1.os,g.iE.tape.trans h1.tape,g.iE.output.trans h1.output,yLt h1.size g.iE.size,fun z hz=>?_⟩
   rw[hsame z (by omega) (by omega)]
   exact h1.block z hz
  refine⟨g.defs,.pointer (some ⟨w.heap.size,0,none⟩),?_,bs,rfl,hN.len,hbk,hN.ne,hbw,cs2,t2,k2,k3.up (dw fun z hz=>⟨?_,fun i hi e=>?_⟩)⟩
  ·have e3:a.tmps.getD 0 undef=.pointer (some ⟨w.heap.size,0,none⟩):=e2
   rw[<-e3]
   exact gP rfl rfl
  ·rcases hz.1 with h|h
   ·exact .inl h
   ·exact .inr (by omega)
  ·obtain⟨m1,m2⟩:=hlt i z hi e
   rcases hz.1 with h|h
   ·have:=h.2;omega
   ·omega
end
section
open Pm
theorem JO(h:pI gTab (fun _=>True) w)(o:Obj):pI gTab (fun _=>True) (w.alloc o):=h.up ⟨by rw[size_alloc];omega,fun z hz _=>⟨trivial,fun o=>World.cell?_of_block (Below.heap_alloc _ _ _ hz)⟩⟩
theorem Gb{g:Nat}{x:Ap}{t:TypeId}(hp:x.p.length=32)(h:aM w g (wu x) t):(loadVar 28 ⟨g,0,none⟩).run Tryz.prog w=.ok (.agg (HC x.p)) w:=
 lN (Jc 28 _ rfl) rfl (cs:=HL x.p) (by rw[gX];exact hp) fun j hj=>by
  rw[h.cell,Nat.zero_add,wu,List.getElem?_toArray,apL,List.getElem?_append_left hj,yGe hj]
theorem Ga{g:Nat}{x:Ap}{t:TypeId}(hp:x.p.length=32)(h:aM w g (wu x) t):(loadVar 3 ⟨g,32,none⟩).run Tryz.prog w=.ok (.int .i64 x.k) w:=
 vP (Jc 3 _ rfl) rfl (by
  rw[h.cell,wu,List.getElem?_toArray,apL,List.getElem?_append_right (by rw[gX,hp];exact yLr _),gX,hp];rfl)
theorem aT2{g:Nat}{x:Ap}{t:TypeId}(hp:x.p.length=32)(h:aM w g (wu x) t):(loadVar 112 ⟨g,0,none⟩).run Tryz.prog w=.ok (.agg (wu x)) w:=
 lN (Jc 112 _ rfl) rfl (cs:=apL x) (um x hp) fun j hj=>by
  rw[h.cell,Nat.zero_add,wu,List.getElem?_toArray,yGe hj]
theorem aF2(w:World)(r:Nat)(t:TypeId)(mu n:Int)(ps:List Value)(v1 v:Value)(L:List Ap)(x:Ap)(hG:pI gTab (fun _=>True) w)(hp:x.p.length=32)(hL:L.length<=1000)(hb:aM w r (vF n mu (ps++[v1,v])).toArray t)(h16:ps.length=16)(h1:∀x∈ps,x.oneCell'=true)(h2:v1.oneCell'=true)(ho:w.ownsRow 0 112 35 v L.length (pQ L))(hl:∀x∈L,x.p.length=32)(hv:v.ownBlock≠some r)(hB:gW L x.p x.k=true):
  Calls Tryz.prog 52 #[.pointer (some ⟨r,0,none⟩),.agg (wu x)] w fun e w'=>e=.returned (.tuple #[])/\Below w.heap.size w w':=by
 obtain⟨wa,Ep⟩:∃wa,wa=w.alloc (.cells (wu x) 112):=⟨_,rfl⟩
 have ha:aM wa w.heap.size (wu x) 112:=by rw[Ep];exact aM.new w _ _
 have hba:aM wa r (vF n mu (ps++[v1,v])).toArray t:=by rw[Ep];exact hb.alloc _
 have hoa:wa.ownsRow 0 112 35 v L.length (pQ L):=by rw[Ep];exact lJ ho fun q _ hq=>Below.heap_alloc _ _ _ hq
 have hga:pI gTab (fun _=>True) wa:=by rw[Ep];exact JO hG _
 have htold:=Qn hga x.p x.k hp (by omega) hba h16 h1 h2 hoa hl
 have hbw:Below w.heap.size w wa:=by rw[Ep];exact(Below.refl _ _).alloc (yLr _) _
 obtain⟨vt,hvt⟩:∃vt,vt=((jU L x.p x.k).map (Value.int .i64)).toArray:=⟨_,rfl⟩
 have h3:(jU L x.p x.k).length=3:=by unfold jU;split<;>rfl
 have hvs:(Tryz.prog.info? 103).map (·.size)=some vt.size:=by rw[hvt,List.size_toArray,List.length_map,h3];kernel_rfl
 have QS:(#[.int .i64 0,.int .i64 0,.int .i64 0]:Array Value).size=vt.size:=by show 3=vt.size;rw[hvt,List.size_toArray,List.length_map,h3]
 have AF:vt.all (fun x=>x.oneCell')=true:=by rw[hvt];simp[Value.oneCell']
 rw[<-hvt]at htold
 clear hvt h3
 have VS:=yHd hvs;have VZ:=yHd QS;have VO:=yHd AF
 clear hvs QS AF
 subst Ep
 have HP:=yHd (Gb hp ha);have HA:=yHd (Ga hp ha);have HT:=yHd htold;have HBW:=yHd hbw;have HBB:=yHd hB
 clear hp hb ho hba hoa hga htold hbw ha hl h1 h2 hG hB
 go_enter Tryz.func52,Tryz.ntmps52
 go_wp2_with (first
  |(refine qj rfl (gq rfl rfl HP.out) ?_)
  |(refine qj rfl (gq rfl rfl HA.out) ?_)
  |(go_at_call 82;refine HT.out.mono ?_;rintro e wb ⟨rfl,hwb⟩;rw[HBB.out])
  |(refine wpList_store_row rfl 103 _ _ rfl wb.heap.size vt rfl rfl 103 #[.int .i64 0,.int .i64 0,.int .i64 0] (aM.new wb _ _) VS.out VZ.out VO.out ?_))
 exact⟨rfl,.tuple #[],results_none rfl _ _ _,rfl,below_setRow ((HBW.out.lift hwb (by rw[size_alloc];omega)).alloc (by have:=hwb.size;rw[size_alloc]at this;omega) _) _ (by have:=hwb.size;rw[size_alloc]at this;omega)⟩
theorem aF1 (w : World) (r : Nat) (t : TypeId) (mu n : Int) (ps : List Value) (v1 v : Value) (L : List Ap) (x : Ap) (hG : pI gTab (fun _ => True) w) (hp : x.p.length = 32) (hL : L.length <= 1000) (hb : aM w r (vF n mu (ps ++ [v1, v])).toArray t) (h16 : ps.length = 16) (h1 : ∀ x ∈ ps, x.oneCell' = true) (h2 : v1.oneCell' = true) (ho : w.ownsRow 0 112 35 v L.length (pQ L)) (hl : ∀ x ∈ L, x.p.length = 32) (hv : v.ownBlock ≠ some r) (hB : gW L x.p x.k = false) :
    Calls Tryz.prog 52 #[.pointer (some ⟨r, 0, none⟩), .agg (wu x)] w fun e w' => e = .returned (.tuple #[]) /\ ∃ v', aM w' r (vF n mu (ps ++ [v1, v'])).toArray t /\ w'.ownsRow 0 112 35 v' (L.length + 1) (pQ (L ++ [x])) /\ (v'.ownBlock = v.ownBlock \/ ∃ q, v'.ownBlock = some q /\ w.heap.size <= q) /\ bX (fun k => k = r \/ v.ownBlock = some k) w w' := by
  obtain ⟨wa, Ep⟩ : ∃ wa, wa = w.alloc (.cells (wu x) 112) := ⟨_, rfl⟩
  have ha : aM wa w.heap.size (wu x) 112 := by rw [Ep]; exact aM.new w _ _
  have hba : aM wa r (vF n mu (ps ++ [v1, v])).toArray t := by rw [Ep]; exact hb.alloc _
  have hoa : wa.ownsRow 0 112 35 v L.length (pQ L) := by rw [Ep]; exact lJ ho fun q _ hq => Below.heap_alloc _ _ _ hq
  have hga : pI gTab (fun _ => True) wa := by rw [Ep]; exact JO hG _
  have htold := Qn hga x.p x.k hp (by omega) hba h16 h1 h2 hoa hl
  have hbw : Below w.heap.size w wa := by rw [Ep]; exact (Below.refl _ _).alloc (yLr _) _
  obtain ⟨vt, hvt⟩ : ∃ vt, vt = ((jU L x.p x.k).map (Value.int .i64)).toArray := ⟨_, rfl⟩
  have h3 : (jU L x.p x.k).length = 3 := by unfold jU; split <;> rfl
  have hvs : (Tryz.prog.info? 103).map (·.size) = some vt.size := by rw [hvt, List.size_toArray, List.length_map, h3]; kernel_rfl
  have QS : (#[.int .i64 0, .int .i64 0, .int .i64 0] : Array Value).size = vt.size := by show 3 = vt.size; rw [hvt, List.size_toArray, List.length_map, h3]
  have AF : vt.all (fun x => x.oneCell') = true := by rw [hvt]; simp [Value.oneCell']
  rw [<- hvt] at htold
  clear hvt h3
  have VS := yHd hvs; have VZ := yHd QS; have VO := yHd AF
  clear hvs QS AF
  have hlt : ∀ q, v.ownBlock = some q -> q < w.heap.size := fun q hq => wY ho hq
  have hrl : r < w.heap.size := hb.lt
  subst Ep
  have HAA := yHd ha; have HR := yHd hb; have HO := yHd ho; have HX := yHd hp; have HLT := yHd hlt; have HV := yHd hv; have HRL := yHd hrl; have H16 := yHd h16; have HL := yHd hL
  have HP := yHd (Gb hp ha); have HA := yHd (Ga hp ha); have HT := yHd htold; have HBW := yHd hbw; have HBB := yHd hB
  clear hlt hv hrl h16 hL hp hb ho hba hoa hga htold hbw ha hl h1 h2 hG hB
  go_enter Tryz.func52, Tryz.ntmps52
  go_wp2_with (first
    | (refine qj rfl (gq rfl rfl HP.out) ?_)
    | (refine qj rfl (gq rfl rfl HA.out) ?_)
    | (go_at_call 82; refine HT.out.mono ?_; rintro e wb ⟨rfl, hwb⟩; rw [HBB.out])
    | (refine wpList_store_row rfl 103 _ _ rfl wb.heap.size vt rfl rfl 103 #[.int .i64 0, .int .i64 0, .int .i64 0] (aM.new wb _ _) VS.out VZ.out VO.out ?_
       refine BF (fun w3 hw3 => ?_)
       have hsz : w.heap.size < wb.heap.size := by have := hwb.size; rw [size_alloc] at this; omega
       have hbl : Below w.heap.size w w3 := by rw [hw3]; exact below_setRow ((HBW.out.lift hwb (by rw [size_alloc]; omega)).alloc (Nat.le_of_lt hsz) _) _ (Nat.le_of_lt hsz)
       have ha3 : aM w3 w.heap.size (wu x) 112 := by rw [hw3]; exact (setRow_other _ _ _ _ (by omega)).trans (((HAA.out.keep hwb).alloc _))
       have hb3 : aM w3 r (vF n mu (ps ++ [v1, v])).toArray t := HR.out.below hbl HRL.out
       have ho3 := lJ HO.out fun q _ hq => hbl.block q hq
       have hg3 : bX (fun k => k = r \/ v.ownBlock = some k) w w3 := .ofBy (Cb hbl) (.inl rfl)
       have c3 : w3.cell? ⟨r, 20, none⟩ = some v := (hb3.cell 20).trans (UF H16.out)
       have HBL := yHd hbl; have HA3 := yHd ha3; have HB3 := yHd hb3; have QL := yHd ho3; have HG3 := yHd hg3
       clear hw3 hbl ha3 hb3 ho3 hg3 hsz))
  have aR1 : ∀ {S : Nat -> Bool}, (∀ k, S k = true -> ∀ j ∈ ([[], [], [1], [2], [3], [], [5], [4, 6], [0], [8], [9, 7]] : List (List Nat)).getD k [], S j = true) -> S 7 = false -> S 10 = false := fun {S} hcl h9 => by
    cases h : S 10 with
    | false => rfl
    | true => have := hcl 10 h 7 (by simp); rw [h9] at this; cases this
  have hA0 : w.heap.size ≠ r := by have := HRL.out; omega
  have hV2 : v.ownBlock ≠ some w.heap.size := fun e => Nat.lt_irrefl _ (HLT.out _ e)
  have hV3 : ∀ q, v.ownBlock = some q -> q < w3.heap.size := fun q e => yLl (HLT.out q e) HBL.out.size
  have hr3 : r < w3.heap.size := HB3.out.lt
  refine ku (JT w3 r w.heap.size t v L n mu ps v1 x) [[], [], [1], [2], [3], [], [5], [4, 6], [0], [8], [9, 7]] (by kernel_rfl) (by kernel_rfl) (by kernel_rfl)
    ⟨⟨rfl, rfl, rfl, yLr _, fun _ _ _ => rfl⟩, HA3.out.drew, (fun k x hk => Bool.noConfusion hk), (fun hk => Bool.noConfusion hk), (fun _ => QL.out), (fun hk => Bool.noConfusion hk), (fun _ => HB3.out.drew), (fun hk => Bool.noConfusion hk), (fun hk => Bool.noConfusion hk)⟩ ?_ ?_
  · refine ⟨?_, ?_, ?_, ?_, ?_, ?_, ?_, ?_, ?_, ?_, ?_, trivial⟩
    · intro S vals wj hJ fK hD hcl
      have q := hJ.pure (show NU r v x 0 = some (.pointer (some ⟨r, 0, none⟩)) from rfl)
      refine jX (v := .pointer (some ⟨r, 0, none⟩)) (w2 := wj) rfl ?_ q
      simp [execOp, aG, Act.put, Act.eval, Instr.fieldAt, go_sem]
    · intro S vals wj hJ fK hD hcl
      have q := hJ.pure (show NU r v x 1 = some (.pointer (some ⟨r, 0, none⟩)) from rfl)
      refine jX (v := .pointer (some ⟨r, 0, none⟩)) (w2 := wj) rfl ?_ q
      simp [execOp, aG, Act.put, Act.eval, Instr.fieldAt, go_sem]
    · intro S vals wj hJ fK hD hcl
      have d1 := hJ.val 1 _ (hD 1 (by simp)) rfl
      have q := hJ.pure (show NU r v x 2 = some (.pointer (some ⟨r, 0, none⟩)) from rfl)
      refine jX (v := .pointer (some ⟨r, 0, none⟩)) (w2 := wj) rfl ?_ q
      simp [execOp, aG, Act.put, Act.eval, Instr.fieldAt, go_sem, d1]
    · intro S vals wj hJ fK hD hcl
      have d2 := hJ.val 2 _ (hD 2 (by simp)) rfl
      have q := hJ.pure (show NU r v x 3 = some (.pointer (some ⟨r, 20, none⟩)) from rfl)
      refine jX (v := .pointer (some ⟨r, 20, none⟩)) (w2 := wj) rfl ?_ q
      simp [execOp, aG, Act.put, Act.eval, Instr.fieldAt, go_sem, d2]
    · intro S vals wj hJ fK hD hcl
      have d3 := hJ.val 3 _ (hD 3 (by simp)) rfl
      have h7 : S 7 = false := by cases h : S 7 with | false => rfl | true => have := hcl 7 h 4 (by simp); rw [fK] at this; cases this
      have c9 : wj.cell? ⟨r, 20, none⟩ = some v := ((hJ.uq (aR1 hcl h7)).cell 20).trans (UF H16.out)
      refine jX rfl ?_ (hJ.pure (i := 4) rfl)
      simp [execOp, aG, Act.put, Act.eval, go_sem, d3, c9]
    · intro S vals wj hJ fK hD hcl
      exact jX rfl (gq rfl (by simp [aG, Act.put, Act.eval]) (aT2 HX.out hJ.paper)) (hJ.pure (i := 5) rfl)
    · intro S vals wj hJ fK hD hcl
      have d5 := hJ.val 5 _ (hD 5 (by simp)) rfl
      have h7 : S 7 = false := by cases h : S 7 with | false => rfl | true => have := hcl 7 h 6 (by simp); rw [fK] at this; cases this
      refine jX rfl ?_ (hJ.alloc h7 (aR1 hcl h7))
      have := aE2 wj x HX.out
      simp [execOp, aG, Act.put, Act.eval, d5, this, Sem.run_bind]
    · intro S vals wj hJ fK hD hcl
      have d4 := hJ.val 4 _ (hD 4 (by simp)) rfl
      obtain ⟨g, k1, k2, k3⟩ := hJ.x6 (hD 6 (by simp))
      obtain ⟨v', wn, k4, k5, k6, k7⟩ := Xh wj x HX.out 69 (by have := HL.out; omega) (hJ.old fK) k2
      refine jX rfl ?_ (hJ.app fK (aR1 hcl fK) k5 k6 k7 HV.out hV2 hV3)
      simp [execOp, aG, Act.put, Act.eval, d4, k1, resolve, invoke, builtin, k4, Sem.run_bind]
    · intro S vals wj hJ fK hD hcl
      have d0 := hJ.val 0 _ (hD 0 (by simp)) rfl
      have q := hJ.pure (show NU r v x 8 = some (.pointer (some ⟨r, 0, none⟩)) from rfl)
      refine jX (v := .pointer (some ⟨r, 0, none⟩)) (w2 := wj) rfl ?_ q
      simp [execOp, aG, Act.put, Act.eval, Instr.fieldAt, go_sem, d0]
    · intro S vals wj hJ fK hD hcl
      have d8 := hJ.val 8 _ (hD 8 (by simp)) rfl
      have q := hJ.pure (show NU r v x 9 = some (.pointer (some ⟨r, 20, none⟩)) from rfl)
      refine jX (v := .pointer (some ⟨r, 20, none⟩)) (w2 := wj) rfl ?_ q
      simp [execOp, aG, Act.put, Act.eval, Instr.fieldAt, go_sem, d8]
    · intro S vals wj hJ fK hD hcl
      have d9 := hJ.val 9 _ (hD 9 (by simp)) rfl
      have z9 := (hJ.uq fK).frozen 20
      have z8 : wj.cell? ⟨r, 20, none⟩ = some v := ((hJ.uq fK).cell 20).trans (UF H16.out)
      obtain ⟨ad9, c9, hv9⟩ := zX (hJ.new (hD 7 (by simp))).1
      obtain ⟨ad8, c8, hv8⟩ := zX QL.out
      refine ay0 rfl ?_ (hJ.store H16.out (hD 7 (by simp)) fK hA0 hr3 HV.out undef)
      simp [execOp, aG, Act.put, Act.eval, go_sem, d9, z9, z8, hv9, hv8]
  · intro vals wz hJ
    obtain ⟨n1, n2⟩ := hJ.new rfl
    have n3 := hJ.ab4 rfl
    have n4 := hJ.grown
    have N1 := yHd n1; have N2 := yHd n2; have N3 := yHd n3; have N4 := yHd n4
    clear n1 n2 n3 n4 hJ hV2 hV3 hr3 hA0 aR1
    generalize hV7 : vals 7 = V7 at N1 N2 N3
    simp [aG, List.range, List.range.loop, Act.put]
    clear hV7
    go_wp2_with fail
    exact ⟨rfl, .tuple #[], results_none rfl _ _ _, rfl, V7, N3.out, N1.out, N2.out.imp id (fun ⟨q, e2, e3⟩ => ⟨q, e2, yLt HBL.out.size e3⟩), HG3.out.trans N4.out⟩
end
section
open Pm
def Lh(L:List Ap):Cm:=⟨fun D w B v=>B=yD v/\w.ownsRow 0 112 35 v L.length (pQ L)/\∀x∈L,x.p.length=32,
 fun k e ⟨h1,h2,h3⟩=>⟨h1,Bd h2 fun z hz=>e z (by rw[h1];exact dV.2 hz),h3⟩,
 fun⟨h1,h2,_⟩ z hz=>wY h2 (dV.1 (by rw[<-h1];exact hz)),fun⟨_,h2,_⟩=>by obtain⟨ad,c,rfl⟩:=zX h2;rfl⟩
def pO(L:List Ap)(x:Ap):List Ap:=if gW L x.p x.k=true then L else L++[x]
theorem last2{α:Type}:∀(n:Nat) (l:List α),l.length=n+2->∃ps a b,l=ps++[a,b]/\ps.length=n
 |0,[a,b],_=>⟨[],a,b,rfl,rfl⟩
 |n+1,x::l,h=>by
  obtain⟨ps,a,b,rfl,h2⟩:=last2 n l (by simpa using h)
  exact⟨x::ps,a,b,rfl,by simp[h2]⟩
theorem ba4{mu n:Int}{c:Nat->Cm}{t:TypeId}(h:WQ D w r mu n c vs B t)(L:List Ap)(x:Ap)(hc:c 17=Lh L)(hG:pI gTab (fun _=>True) w)(hp:x.p.length=32)(hL:L.length<=1000):
  Calls Tryz.prog 52 #[.pointer (some ⟨r,0,none⟩),.agg (wu x)] w fun e w'=>e=.returned (.tuple #[])/\∃v' Bn,WQ (fun z=>(D z\/w.heap.size<=z)/\z≠r/\z∉Bn) w' r mu n (upd c 17 (Lh (pO L x))) (vs.set 17 v') (upd B 17 Bn) t/\bX (fun q=>q=r\/q∈B 17) w w'/\∀q∈Bn,q∈B 17\/w.heap.size<=q:=by
 obtain⟨ps,v1,v,rfl,h16⟩:=last2 16 vs h.len
 have bA9:(ps++[v1,v]).getD 17 undef=v:=by rw[yGd,List.getElem?_append_right (by omega),h16];rfl
 have hset:∀v',(ps++[v1,v]).set 17 v'=ps++[v1,v']:=fun v'=>by rw[List.set_append_right _ _ (by omega),h16];rfl
 have Sg:=h.at' 17 (by omega)
 rw[hc,bA9]at Sg
 obtain⟨hB,ho,hl⟩:=Sg
 have hone:∀y∈ps++[v1,v],y.oneCell'=true:=fun y hy=>by
  obtain⟨i,hi,e⟩:=List.getElem_of_mem hy
  have h1:=(c i).one (h.at' i (by rw[<-h.len];exact hi))
  rw[yGd,yGe hi]at h1
  rw[<-e];exact h1
 have h1:∀y∈ps,y.oneCell'=true:=fun y hy=>hone y (by simp[hy])
 have h2:v1.oneCell'=true:=hone v1 (by simp)
 have hv:v.ownBlock≠some r:=fun e=>h.ne 17 (by omega) (by rw[hB];exact dV.2 e)
 cases hT:gW L x.p x.k with
 |true=>
  refine(aF2 w r t mu n ps v1 v L x hG hp hL h.blk h16 h1 h2 ho hl hv hT).mono ?_
  rintro e w' ⟨rfl,hb⟩
  have hg:bX (fun q=>q=r\/q∈B 17) w w':=.ofBy (Cb hb) (.inl rfl)
  refine⟨rfl,v,B 17,?_,hg,fun q hq=>.inl hq⟩
  have e1:pO L x=L:=if_pos hT
  rw[e1]
  exact h.set (by omega) (by rw[hset];exact h.blk.below hb h.blk.lt) hg (fun q hq=>.inl hq) (h.ne 17 (by omega)) ⟨hB,Bd ho fun z hz=>hb.block z (wY ho hz),hl⟩
 |false=>
  refine(aF1 w r t mu n ps v1 v L x hG hp hL h.blk h16 h1 h2 ho hl hv hT).mono ?_
  rintro e w' ⟨rfl,v',k1,k2,k3,k4⟩
  have hg:bX (fun q=>q=r\/q∈B 17) w w':=⟨k4.os,k4.tape,k4.output,k4.size,fun q hq hn=>k4.block q hq fun e=>hn (e.imp id fun e=>by rw[hB];exact dV.2 e)⟩
  have hBn:∀q∈yD v',q∈B 17\/w.heap.size<=q:=fun q hq=>by
   have hq:=dV.1 hq
   rcases k3 with k3|⟨z,k3,k5⟩
   ·exact .inl (by rw[hB];exact dV.2 (by rw[<-k3];exact hq))
   ·rw[k3]at hq;cases hq;exact .inr k5
  have e1:pO L x=L++[x]:=if_neg (by rw[hT];exact Bool.false_ne_true)
  refine⟨rfl,v',yD v',?_,hg,hBn⟩
  rw[e1]
  refine h.set (by omega) (by rw[hset];exact k1) hg hBn (fun hm=>?_) ⟨rfl,by rw[List.length_append];exact k2,fun y hy=>?_⟩
  ·rcases hBn r hm with e|e
   ·exact h.ne 17 (by omega) e
   ·have:=h.blk.lt;omega
  ·rcases List.mem_append.1 hy with hy|hy
   ·exact hl y hy
   ·rcases List.mem_cons.1 hy with rfl|hy
    ·exact hp
    ·cases hy
end
section
open Pm
section
variable {w3 : World} {r i : Nat} {b k : Value} {Q : Value -> World -> Prop} {S : Nat -> Bool} {vals : Nat -> Value} {w : World}
end
end
section
open Pm
theorem W9{n mu:Int}(i:Nat):(vF n mu vs).toArray[3+i]?=vs[i]?:=by
 rw[Nat.add_comm];simp[vF]
end
section
open Pm
theorem be6{mu n:Int}{c:Nat->Cm}{t:TypeId}(h:WQ D w r mu n c vs B t)(j:Nat)(hj:j<18){x y:BS}(hc:c j=Jo x){args:List A}{res:bC}(hf:vC Tryz.prog gTab f 0 (bkP x) args res (bkP y))(hG:pI gTab D w){av:List Value}(ha:mH D w args av):
  Calls Tryz.prog f (vs.getD j undef::av).toArray w fun e w'=>∃v Bn N,e=.returned v/\WQ (fun z=>(D z\/w.heap.size<=z)/\z≠r/\z∉Bn) w' r mu n (upd c j (Jo y)) vs (upd B j Bn) t/\bX (fun q=>q∈B j) w w'/\RRb D w w' Bn N res v/\∀q∈Bn,q∈B j\/w.heap.size<=q:=by
 have hp:=h.at' j hj
 have hget:vs[j]?=some (vs.getD j undef):=by rw[yGd,yGe (by rw[h.len];omega)];rfl
 rw[hc]at hp
 obtain⟨q,G,hB,hv,hlt,hbq⟩:=hp
 rw[hv]at hget ⊢
 refine(hf D w q G av hG hlt hbq ha (fun z hz hm=>(h.dat z hz).2 j hj (by rw[hB];exact hm))).mono ?_
 rintro e w' ⟨v,F',N,rfl,k1,k2,k3,k4,k5⟩
 have hg:bX (fun q=>q∈B j) w w':=⟨k5.os,k5.tape,k5.output,k5.size,fun z hz hn=>k5.block z hz (by rw[<-hB];exact hn)⟩
 have hBn:∀z∈q::F',z∈B j\/w.heap.size<=z:=fun z hz=>by
  rcases List.mem_cons.1 hz with rfl|hz
  ·exact .inl (by rw[hB];simp)
  ·rw[hB];exact k1 z hz
 refine⟨v,q::F',N,rfl,?_,hg,k4,hBn⟩
 have hset:vs.set j (.pointer (some ⟨q,0,none⟩))=vs:=by
  apply List.ext_getElem?
  intro i
  rw[List.getElem?_set]
  split
  ·next e=>subst e;rw[if_pos (by rw[h.len];exact hj),hget]
  ·rfl
 have hr:r∉q::F':=fun hm=>by
  rcases hBn r hm with e|e
  ·exact h.ne j hj e
  ·have:=h.blk.lt;omega
 have:=h.set (c':=Jo y) (v':=.pointer (some ⟨q,0,none⟩)) hj (by rw[hset];exact(hg.block r h.blk.lt (h.ne j hj)).trans h.blk) ⟨hg.os,hg.tape,hg.output,hg.size,fun z hz hn=>hg.block z hz fun e=>hn (.inr e)⟩ hBn hr ⟨q,F',rfl,rfl,k2,k3⟩
 rw[hset]at this
 exact this
end
section
open Pm
theorem WQ.keeps{mu n:Int}{c:Nat->Cm}{t:TypeId}(h:WQ D w r mu n c vs B t)(hj:j<18)(hg:bX (fun q=>q=r\/q∈B j) w w')(hB:∀q∈Bn,q∈B j\/w.heap.size<=q):
  Keeps D w (fun z=>(D z\/w.heap.size<=z)/\z≠r/\z∉Bn) w':=⟨hg.size,fun z hz hd=>⟨⟨.inl hd,(h.dat z hd).1,fun hm=>by
  rcases hB z hm with h1|h1
  ·exact(h.dat z hd).2 j hj h1
  ·omega⟩,fun o=>World.cell?_of_block (hg.block z hz fun e=>by rcases e with e|e;exact(h.dat z hd).1 e;exact(h.dat z hd).2 j hj e)⟩⟩
theorem aQ1(h:pI gTab D w):pI gTab (fun _=>True) w:=h.up ⟨yLr _,fun z _ _=>⟨trivial,fun _=>rfl⟩⟩
theorem WQ.RQ{mu n:Int}{c:Nat->Cm}{t:TypeId}(h:WQ D w r mu n c vs B t)(hj:j<18){a:A}(hc:c j=jG a):RA D w a (vs.getD j undef):=by
 have:=h.at' j hj
 rw[hc]at this
 exact this.2.1
theorem WQ.Ve{mu n:Int}{c:Nat->Cm}{t:TypeId}(h:WQ D w r mu n c vs B t)(hj:j<18):w.cell? ⟨r,3+j,none⟩=some (vs.getD j undef):=by
 rw[h.blk.cell,W9,yGd,yGe (by rw[h.len];exact hj)];rfl
end
section
open Pm
structure JR(cst:Nat->Option Value)(w3:World)(S:Nat->Bool)(vals:Nat->Value)(w:World):Prop where
 val:∀k x,S k=true->cst k=some x->vals k=x
 same:w=w3
theorem JR.pure{cst:Nat->Option Value}{w3:World}{S:Nat->Bool}{vals:Nat->Value}(h:JR cst w3 S vals w)(hc:cst j=some x):JR cst w3 (add1 S j) (fun k=>if k=j then x else vals k) w:=by
 refine⟨fun k y hk hy=>?_,h.same⟩
 by_cases e1:k=j
 ·subst e1;rw[hc]at hy;cases hy;exact if_pos rfl
 ·rw[aA S e1]at hk;rw[gG vals j x e1];exact h.val k y hk hy
def wJ(r g i:Nat)(pv bv:Value):Nat->Option Value
 |0=>some (.pointer (some ⟨r,0,none⟩))
 |1=>some (.pointer (some ⟨g,1,none⟩))
 |2=>some (.int .i64 (i:Nat))
 |3=>some (.pointer (some ⟨r,0,none⟩))
 |4=>some (.pointer (some ⟨r,3,none⟩))
 |5=>some (.pointer (some ⟨r,3+i,none⟩))
 |6=>some (pv)
 |7=>some (.pointer (some ⟨r,0,none⟩))
 |8=>some (.pointer (some ⟨g,1,none⟩))
 |9=>some (.int .i64 (i:Nat))
 |10=>some (.pointer (some ⟨r,0,none⟩))
 |11=>some (.pointer (some ⟨r,11,none⟩))
 |12=>some (.pointer (some ⟨r,11+i,none⟩))
 |13=>some (bv)
 |14=>some (pv)
 |15=>some (bv)
 |_=>none
end
section
open Pm
structure JA(cst:Nat->Option Value)(w3:World)(s:Int)(tv:Array Value)(S:Nat->Bool)(vals:Nat->Value)(w:World):Prop where
 iE:Below w3.heap.size w3 w
 val:∀k x,S k=true->cst k=some x->vals k=x
 x4:S 4=true->∃q,vals 4=.pointer (some ⟨q,0,none⟩)/\w3.heap.size<=q/\q<w.heap.size/\HB (fun _=>False) w q (.obj (mO s))
 x13:S 13=true->∃q zc,vals 13=.pointer (some ⟨q,0,none⟩)/\w3.heap.size<=q/\q<w.heap.size/\aM w q (if S 14=true then tv else zc) 103/\zc.size=tv.size
 sep:S 4=true->S 13=true->vals 4≠vals 13
section
variable {cst : Nat -> Option Value} {w3 : World} {s : Int} {tv : Array Value} {S : Nat -> Bool} {vals : Nat -> Value} {w w' : World}
theorem LJ{s:Int}(h:HB (fun _=>False) w q (.obj (mO s)))(e:w'.heap[q]?=w.heap[q]?):HB (fun _=>False) w' q (.obj (mO s)):=by
 obtain⟨cs,t,h1,h2⟩:=h
 exact⟨cs,t,e.trans h1,h2⟩
theorem JA.step(h:JA cst w3 s tv S vals w)(hb:Below w.heap.size w w')(hc:cst j=some v)(n4:4≠j)(n13:13≠j)(n14:14≠j):JA cst w3 s tv (add1 S j) (fun k=>if k=j then v else vals k) w':=by
 have s4:=aA S n4;have s13:=aA S n13;have s14:=aA S n14
 have v4:=gG vals j v n4;have v13:=gG vals j v n13
 have hs:=h.iE.size
 refine⟨h.iE.lift hb hs,fun k x hk hx=>?_,fun hk=>?_,fun hk=>?_,fun h1 h2=>?_⟩
 ·by_cases e1:k=j
  ·subst e1;rw[hc]at hx;cases hx;exact if_pos rfl
  ·rw[aA S e1]at hk;rw[gG vals j v e1];exact h.val k x hk hx
 ·rw[s4]at hk;rw[v4]
  obtain⟨q,k1,k2,k3,k4⟩:=h.x4 hk
  exact⟨q,k1,k2,yLl k3 hb.size,LJ k4 (hb.block q k3)⟩
 ·rw[s13]at hk;rw[v13,s14]
  obtain⟨q,zc,k1,k2,k3,k4,k5⟩:=h.x13 hk
  exact⟨q,zc,k1,k2,yLl k3 hb.size,(hb.block q k3).trans k4,k5⟩
 ·rw[s4]at h1;rw[s13]at h2;rw[v4,v13];exact h.sep h1 h2
theorem JA.pure(h:JA cst w3 s tv S vals w)(hc:cst j=some v)(n4:4≠j)(n13:13≠j)(n14:14≠j):JA cst w3 s tv (add1 S j) (fun k=>if k=j then v else vals k) w:=h.step (Below.refl _ _) hc n4 n13 n14
theorem JA.sign(h:JA cst w3 s tv S vals w)(hc4:cst 4=none)(hb:Below w.heap.size w w')(hq:w.heap.size<=q)(hq2:q<w'.heap.size)(hk4:HB (fun _=>False) w' q (.obj (mO s))):JA cst w3 s tv (add1 S 4) (fun k=>if k=4 then .pointer (some ⟨q,0,none⟩)else vals k) w':=by
 have s13:=aA S (show 13≠4 by decide);have s14:=aA S (show 14≠4 by decide)
 have v13:=gG vals 4 (.pointer (some ⟨q,0,none⟩)) (show 13≠4 by decide)
 have hs:=h.iE.size
 refine⟨h.iE.lift hb hs,fun k x hk hx=>?_,fun _=>⟨q,if_pos rfl,by omega,hq2,hk4⟩,fun hk=>?_,fun h1 h2=>?_⟩
 ·have e1:k≠4:=by rintro rfl;rw[hc4]at hx;cases hx
  rw[aA S e1]at hk;rw[gG vals 4 _ e1];exact h.val k x hk hx
 ·rw[s13]at hk;rw[v13,s14]
  obtain⟨q',zc,k1,k2,k3,k4,k5⟩:=h.x13 hk
  exact⟨q',zc,k1,k2,yLl k3 hb.size,(hb.block q' k3).trans k4,k5⟩
 ·rw[s13]at h2;rw[v13]
  obtain⟨q',zc,k1,k2,k3,k4,k5⟩:=h.x13 h2
  rw[k1]
  show(if(4:Nat)=4 then Value.pointer (some ⟨q,0,none⟩)else vals 4)≠_
  rw[if_pos rfl]
  intro e;cases e;omega
theorem JA.cn8(h:JA cst w3 s tv S vals w)(h4:S 4=true)(hv:vals 4=.pointer (some ⟨q,0,none⟩))(hc:cst 9=some v)(hg:w.grownBy w' (some q))(hk4:HB (fun _=>False) w' q (.obj (mO s))):JA cst w3 s tv (add1 S 9) (fun k=>if k=9 then v else vals k) w':=by
 have s4:=aA S (show 4≠9 by decide);have s13:=aA S (show 13≠9 by decide);have s14:=aA S (show 14≠9 by decide)
 have v4:=gG vals 9 v (show 4≠9 by decide);have v13:=gG vals 9 v (show 13≠9 by decide)
 have hs:=h.iE.size
 obtain⟨q4,k1,k2,k3,k4⟩:=h.x4 h4
 rw[hv]at k1;cases k1
 refine⟨below_grown h.iE hg k2 hs,fun k x hk hx=>?_,fun hk=>?_,fun hk=>?_,fun h1 h2=>?_⟩
 ·by_cases e1:k=9
  ·subst e1;rw[hc]at hx;cases hx;exact if_pos rfl
  ·rw[aA S e1]at hk;rw[gG vals 9 v e1];exact h.val k x hk hx
 ·rw[v4];exact⟨q,hv,k2,yLl k3 hg.size,hk4⟩
 ·rw[s13]at hk;rw[v13,s14]
  obtain⟨q',zc,m1,m2,m3,m4,m5⟩:=h.x13 hk
  have hne:q'≠q:=fun e=>h.sep h4 hk (by rw[hv,m1,e])
  exact⟨q',zc,m1,m2,yLl m3 hg.size,(hg.block q' m3 fun e=>hne (by cases e;rfl)).trans m4,m5⟩
 ·rw[s4]at h1;rw[s13]at h2;rw[v4,v13];exact h.sep h1 h2
theorem JA.alloc(h:JA cst w3 s tv S vals w)(hc:cst 13=none)(JU:S 14=false){zc:Array Value}(hz:zc.size=tv.size):JA cst w3 s tv (add1 S 13) (fun k=>if k=13 then .pointer (some ⟨w.heap.size,0,none⟩)else vals k) (w.alloc (.cells zc 103)):=by
 have s4:=aA S (show 4≠13 by decide);have s14:=aA S (show 14≠13 by decide)
 have v4:=gG vals 13 (.pointer (some ⟨w.heap.size,0,none⟩)) (show 4≠13 by decide)
 have hs:=h.iE.size
 refine⟨h.iE.alloc hs _,fun k x hk hx=>?_,fun hk=>?_,fun _=>⟨w.heap.size,zc,if_pos rfl,hs,by rw[size_alloc];omega,?_,hz⟩,fun h1 h2=>?_⟩
 ·have e1:k≠13:=by rintro rfl;rw[hc]at hx;cases hx
  rw[aA S e1]at hk;rw[gG vals 13 _ e1];exact h.val k x hk hx
 ·rw[s4]at hk;rw[v4]
  obtain⟨q,k1,k2,k3,k4⟩:=h.x4 hk
  exact⟨q,k1,k2,by rw[size_alloc];omega,LJ k4 (Below.heap_alloc w _ q k3)⟩
 ·rw[s14,JU,if_neg Bool.false_ne_true];exact aM.newAt _ _ rfl
 ·rw[s4]at h1;rw[v4]
  obtain⟨q,k1,k2,k3,k4⟩:=h.x4 h1
  rw[k1]
  show _≠(if(13:Nat)=13 then Value.pointer (some ⟨w.heap.size,0,none⟩)else vals 13)
  rw[if_pos rfl]
  intro e
  have e:q=w.heap.size:=by first|(simp at e;done)|simpa using e
  omega
theorem JA.store(h:JA cst w3 s tv S vals w)(hc:cst 14=none)(JQ:S 13=true)(hv:vals 13=.pointer (some ⟨q,0,none⟩))(x:Value):JA cst w3 s tv (add1 S 14) (fun k=>if k=14 then x else vals k) (w.setRow q tv):=by
 have s4:=aA S (show 4≠14 by decide);have s13:=aA S (show 13≠14 by decide)
 have v4:=gG vals 14 x (show 4≠14 by decide);have v13:=gG vals 14 x (show 13≠14 by decide)
 obtain⟨q',zc,m1,m2,m3,m4,m5⟩:=h.x13 JQ
 rw[hv]at m1;cases m1
 refine⟨⟨h.iE.os,h.iE.tape,h.iE.output,by rw[size_setRow];exact h.iE.size,fun z hz=>(setRow_other w q z tv (by omega)).trans (h.iE.block z hz)⟩,fun k y hk hx=>?_,fun hk=>?_,fun _=>?_,fun h1 h2=>?_⟩
 ·have e1:k≠14:=by rintro rfl;rw[hc]at hx;cases hx
  rw[aA S e1]at hk;rw[gG vals 14 _ e1];exact h.val k y hk hx
 ·rw[s4]at hk;rw[v4]
  obtain⟨q4,k1,k2,k3,k4⟩:=h.x4 hk
  have hne:q4≠q:=fun e=>h.sep hk JQ (by rw[k1,hv,e])
  exact⟨q4,k1,k2,by rw[size_setRow];exact k3,LJ k4 (setRow_other w q q4 tv hne)⟩
 ·rw[v13,jc]
  refine⟨q,zc,hv,m2,by rw[size_setRow];exact m3,?_,m5⟩
  rw[if_pos rfl]
  exact m4.setRow _
 ·rw[s4]at h1;rw[v4,v13];exact h.sep h1 JQ
end
def IK(e:Int)(zs:List Int)(ad:List Bool)(k:Int)(ch:List UInt8)(who s fr:Int)(ops:List Int)(n:Nat):List Int:=
 if uo e zs ad k who s fr ops n=0 then[who,iV s (bW e zs ad k ch fr ops),jI s (bW e zs ad k ch fr ops)]else[0,0,0]
theorem aL1(e:Int)(zs:List Int)(ad:List Bool)(k:Int)(ch:List UInt8)(who s fr:Int)(ops:List Int)(n:Nat):Np e zs ad k ch who s fr ops n=[.agg [.ints .i64 3 (IK e zs ad k ch who s fr ops n)],.v (.int .i64 (uo e zs ad k who s fr ops n))]:=by
 unfold Np IK
 split
 ·next h=>rw[h]
 ·rfl
theorem Nq(e:Int)(zs:List Int)(ad:List Bool)(k:Int)(ch:List UInt8)(who s fr:Int)(ops:List Int)(n:Nat):(IK e zs ad k ch who s fr ops n).length=3:=by
 unfold IK
 split<;>rfl
end
section
open Pm
def y8(i:Nat)(nn fr:Int)(vo:Value)(dr:Int)(vy:Value):Array Value:=#[.int .i64 1,.int .i64 (i:Nat),.int .i64 nn,.int .i64 fr,vo,.int .i64 dr,vy]
theorem PK(hl:l≠[])(h:RA D w (.sref l 0) v):∃a,v=.pointer (some a):=by
 cases h with
 |sref k1 k2=>exact⟨_,rfl⟩
theorem Mx(h:RA D w (.agg l) v):∃cs:Array Value,v=.agg cs/\RL D w l cs.toList:=by
 cases h with
 |agg k=>exact⟨_,rfl,by simpa using k⟩
def co2(g:Nat)(pa:Addr)(cv tv:Array Value)(lf fr er:Int)(vo:Value):Nat->Option Value
 |0=>some (.agg cv)
 |1=>some (.pointer (some pa))
 |2=>some (.int .i64 lf)
 |3=>some (.pointer (some pa))
 |4=>none
 |5=>some (.pointer (some ⟨g,3,none⟩))
 |6=>some (.int .i64 fr)
 |7=>some (.pointer (some ⟨g,4,none⟩))
 |8=>some vo
 |9=>some (.tuple #[.agg tv,.int .i64 er])
 |10=>some (.tuple #[.agg tv,.int .i64 er])
 |11=>some (.agg tv)
 |12=>some (.int .i64 er)
 |13=>none
 |14=>none
 |15=>some (.int .i64 er)
 |_=>none
theorem K8(h:∀v∈cs.toList,v.oneCell'=true):cs.all (·.oneCell')=true:=by
 rw[Array.all_eq_true_iff_forall_mem]
 exact fun v hv=>h v (by simpa using hv)
theorem U4{B g:Nat}{a b:World}(h:Below B a b)(hg:B<=g):Below B a (b.setRow g cs):=
 ⟨h.os,h.tape,h.output,by rw[size_setRow];exact h.size,fun z hz=>(setRow_other b g z cs (by omega)).trans (h.block z hz)⟩
theorem j4{a b:World}(h:Below a.drew.heap.size a.drew b):Below a.heap.size a b:=⟨h.os,h.tape,h.output,h.size,h.block⟩
theorem Kq(h:RL D w l cs.toList):RA D w (.agg l) (.agg cs):=by
 have:=RA.agg h
 simpa using this
theorem wL{P:Program}{o:Oper}(ty:TypeId)(x y:Operand)(ho:o.op=.store ty x y)(g:Nat)(cells:Array Value)(hx:a.eval x=.pointer (some ⟨g,0,none⟩))(hy:a.eval y=.agg cells)
  (t:TypeId)(old:Array Value)(hg:w.heap[g]?=some (.cells old t (0,0)))(hi:(P.info? ty).map (·.size)=some cells.size)(hold:old.size=cells.size)(h1:cells.all (·.oneCell')=true):(execOp a.eval o).run P w=.ok .skip (w.setRow g cells):=by
 unfold execOp
 simp only[ho,hx,hy,Instr.storeAt,Instr.sureAddr,Sem.run_bind,Sem.run_pure,Result.andThen_ok,run_storeVar_row w g t ty old cells hg hi hold h1]
theorem ce3{P P':List UInt8}(h:P=P')(k:RA D w (.agg [.bytes 32 P']) v):v=.agg (HC P):=by
 obtain⟨rfl,_⟩:=GI k
 rw[h];rfl
theorem ag2{e k:Int}{zs:List Int}{ad:List Bool}{ch:List UInt8}{cv:Array Value}(h:RL D w (eD e zs ad k ch) cv.toList):cv[0]?=some (.int .i64 e):=by
 obtain⟨c,d,h1,h2,_⟩:=h.head
 obtain⟨_,rfl⟩:=h2.fB
 rw[<-Array.getElem?_toList,h1];rfl
theorem Ee{a b c d e:World}(h1:Below d.heap.size d e)(h2:Below c.heap.size c d)(h3:Below b.heap.size b c)(h4:Below a.heap.size a b):Below a.heap.size a e:=
 ((h4.lift h3 h4.size).lift h2 (yLt h4.size h3.size)).lift h1 (yLt (yLt h4.size h3.size) h2.size)
theorem WQ.keep{mu n:Int}{c:Nat->Cm}{t:TypeId}(h:WQ D w r mu n c vs B t)(b:Below w.heap.size w w'):WQ D w' r mu n c vs B t:=
 ⟨h.len,h.blk.below b h.blk.lt,fun j hj=>(c j).up ⟨b.size,fun z hz hd=>⟨hd,fun o=>World.cell?_of_block (b.block z hz)⟩⟩ (fun q hq=>b.block q ((c j).lt (h.at' j hj) q hq)) (h.at' j hj),h.ne,h.sep,h.dat⟩
theorem aA2(h:P.length=32):RA D w (.agg [.bytes 32 P]) (.agg (HC P)):=.agg (.ofBytes h rfl)
theorem be7{av:List Value}(e:v=v')(h:Calls Tryz.prog f (v::av).toArray w R):Calls Tryz.prog f (v'::av).toArray w R:=e▸h
theorem WQ.lt{mu n:Int}{c:Nat->Cm}{t:TypeId}(h:WQ D w r mu n c vs B t)(hj:j<18)(hq:q∈B j):q<w.heap.size:=(c j).lt (h.at' j hj) q hq
theorem ZG(x:BS)(e:Int)(p:List UInt8):(jk x e p).f=x.f:=by
 unfold jk;split;rfl;split;rfl;split<;>rfl
theorem WQ.bB6{w w6 w7 wz:World}{mu n:Int}{c:Nat->Cm}{t:TypeId}(h:WQ D w6 r mu n c vs B t)(k:Keeps D w D wz)(b:Below wz.heap.size wz w6)(g:bX (fun q=>q∈B j) w6 w7)(hn:∀q∈Bn,q∈B j\/w6.heap.size<=q)(hj:j<18:=by omega):
  Keeps D w (fun z=>(D z\/w6.heap.size<=z)/\z≠r/\z∉Bn) w7:=by
 refine⟨yLt k.1 (yLt b.size g.size),fun z hz hd=>?_⟩
 have hz6:z<w6.heap.size:=yLl hz (yLt k.1 b.size)
 refine⟨⟨.inl hd,(h.dat z hd).1,fun hm=>?_⟩,fun o=>?_⟩
 ·rcases hn z hm with e|e
  ·exact(h.dat z hd).2 j hj e
  ·omega
 ·rw[World.cell?_of_block (g.block z hz6 ((h.dat z hd).2 j hj)),World.cell?_of_block (b.block z (yLl hz k.1)),(k.2 z hz hd).2]
theorem Yk(hs:w.heap.size<=w'.heap.size)(h:∀z,z<w.heap.size->D z->∀o,w'.cell? ⟨z,o,none⟩=w.cell? ⟨z,o,none⟩):Keeps D w (fun _=>True) w':=⟨hs,fun z hz hd=>⟨trivial,h z hz hd⟩⟩
theorem l8x{w w6 w7 w8:World}{mu n mu' n':Int}{c c':Nat->Cm}{vs vs':List Value}{t t':TypeId}(h:WQ D w6 r mu n c vs B t)(h0:WQ D w r mu' n' c' vs' B t')(hj:j<18)(g8:bX (fun q=>q∈upd B j Bn j) w7 w8)(hn:∀q∈Bn,q∈B j\/w6.heap.size<=q)(g7:bX (fun q=>q∈B j) w6 w7){z:Nat}(hz:z<w6.heap.size)(hd:D z):w8.heap[z]?=w6.heap[z]?:=by
 have h1:z∉B j:=(h.dat z hd).2 j hj
 rw[g8.block z (yLl hz g7.size) (fun hm=>?_),g7.block z hz h1]
 rcases hn z (by simpa[upd]using hm)with e|e
 ·exact h1 e
 ·omega
theorem Xv{l:List Int}(hp:P.length=32)(hl:l.length=3):Tryz.prog.built 112 [(0,.agg (HC P)),(1,.agg (l.map fun z=>Value.int .i64 z).toArray)]=some (wu ⟨P,l.getD 0 0,l.getD 1 0,l.getD 2 0⟩):=by
 obtain⟨i,hY,ha,he,hpl,hz,_⟩:=aa8
 obtain⟨f,z,h1,h2,_,h3,h4⟩:=(Jc _ i hY).info
 obtain⟨fs,k1,k2⟩:=(Jc _ i hY).Ko ha he
 rw[hz]at h4
 obtain⟨a,b,c,rfl⟩:∃a b c,l=[a,b,c]:=by
  rcases l with _|⟨a,_|⟨b,_|⟨c,_|⟨d,l⟩⟩⟩⟩<;>first|(simp at hl;done)|exact⟨a,b,c,rfl⟩
 obtain⟨l',rfl,hf⟩:=lV (off:=fun q=>i.Ko[q]?) (s:=⟨[.d (.agg [.bytes 32 P]),.d (.agg [.ints .i64 3 [a,b,c]])],[]⟩) (parts:=[(0,.tmp 0),(1,.tmp 1)]) (l:=[.bytes 32 (List.replicate 32 0),.ints .i64 3 [0,0,0]]) (K:=fun l=>l=[.bytes 32 P,.ints .i64 3 [a,b,c]]) (by rw[hpl];exact⟨by decide,rfl,by decide,rfl,rfl⟩)
 obtain⟨cs',h5,h6⟩:=hf (D:=fun _=>True) (w:=default) (ρ:=fun _=>none) (fun x=>match x with| .tmp 0=>.agg (HC P)|_=>.agg #[.int .i64 a,.int .i64 b,.int .i64 c]) z.cells (fun q hq=>by
  rcases List.mem_cons.1 hq with rfl|hq
  ·exact .agg (.ofBytes hp rfl)
  ·rcases List.mem_cons.1 hq with rfl|hq
   ·exact RA.agg (RL.fI (k:=.i64) (n:=3) (zs:=[a,b,c]) rfl rfl)
   ·cases hq) (cZ h4)
 have e6:=bm6 (x:=⟨P,a,b,c⟩) h6
 have h1':Tryz.prog.info? 112=some f:=h1
 have k1':Tryz.prog.underlying 112=some (.struct fs):=k1
 have k2':fs.toList.mapM (fun f=>(Tryz.prog.info? f.type).map fun j=>(f.offset,j.size))=some i.Ko:=k2
 unfold Program.built
 simp only[h1',k1',h3,k2']
 have e9:(fun x:Nat=>i.Ko.toArray[x]?)=fun q:Nat=>i.Ko[q]?:=by funext q;simp
 rw[e9]
 rw[e6]at h5
 exact h5
theorem M5{P:Program}{ops:Array Oper}{rest:List Oper}{o:Oper}(hg:o.guard=none)(t:TypeId)(parts:Array (Nat×Operand))(ho:o.op=.build t parts)(cells:Array Value)
  (hf:P.built t (parts.map fun(i,x)=>(i,a.eval x)).toList=some cells)(h:wpList P ops Q rest (a.put o.dst (.agg cells)) w):wpList P ops Q (o::rest) a w:=
 wpList_build hg t parts ho (by rw[hf];rfl) (by rw[hf];exact h)
def apA(p:PS)(fr:Int)(ops:List Int)(m:Nat):Ap:=⟨bW p.e p.zs p.ad p.k p.ch fr ops,(IK p.e p.zs p.ad p.k p.ch p.lf (aI p.sg) fr ops m).getD 0 0,(IK p.e p.zs p.ad p.k p.ch p.lf (aI p.sg) fr ops m).getD 1 0,(IK p.e p.zs p.ad p.k p.ch p.lf (aI p.sg) fr ops m).getD 2 0⟩
def jZ(p:PS)(y:BS)(L:List Ap)(fr:Int)(ops:List Int)(m:Nat)(nn dr:Int):Int×BS×List Ap:=
 if uo p.e p.zs p.ad p.k p.lf (aI p.sg) fr ops m=0 then
  if zS y p.e (bW p.e p.zs p.ad p.k p.ch fr ops)=0 then
   if nn=1 then(0,br8 (jk y p.e (bW p.e p.zs p.ad p.k p.ch fr ops)) dr,L)
   else(0,o8 (jk y p.e (bW p.e p.zs p.ad p.k p.ch fr ops)),pO L (apA p fr ops m))
  else(zS y p.e (bW p.e p.zs p.ad p.k p.ch fr ops),jk y p.e (bW p.e p.zs p.ad p.k p.ch fr ops),L)
 else(uo p.e p.zs p.ad p.k p.lf (aI p.sg) fr ops m,y,L)
structure gY(D:Nat->Prop)(w:World)(r:Nat)(B:Nat->List Nat)(D':Nat->Prop)(w':World)(B':Nat->List Nat):Prop where
 k:Keeps D w D' w'
 g:bX (fun q=>q=r\/∃j,j<18/\q∈B j) w w'
 b:∀j,j<18->∀q∈B' j,(∃k,k<18/\q∈B k)\/w.heap.size<=q
 lo:∀z,D' z->D z\/w.heap.size<=z
theorem OH{A B C:Nat->Prop}{a b c:World}(h:Keeps A a B b)(k:Keeps B b C c):Keeps A a C c:=
 ⟨yLt h.1 k.1,fun z hz ha=>⟨(k.2 z (yLl hz h.1) (h.2 z hz ha).1).1,fun o=>((k.2 z (yLl hz h.1) (h.2 z hz ha).1).2 o).trans ((h.2 z hz ha).2 o)⟩⟩
theorem gY.trans{D D1 D2:Nat->Prop}{w w1 w2:World}{B B1 B2:Nat->List Nat}(h:gY D w r B D1 w1 B1)(k:gY D1 w1 r B1 D2 w2 B2):gY D w r B D2 w2 B2:=by
 refine⟨OH h.k k.k,⟨k.g.os.trans h.g.os,k.g.tape.trans h.g.tape,k.g.output.trans h.g.output,yLt h.g.size k.g.size,fun z hz hn=>?_⟩,fun j hj q hq=>?_,fun z hz=>?_⟩
 ·rw[k.g.block z (yLl hz h.g.size) (fun e=>?_),h.g.block z hz hn]
  rcases e with e|⟨j,hj,e⟩
  ·exact hn (.inl e)
  ·rcases h.b j hj z e with e|e
   ·exact hn (.inr e)
   ·omega
 ·rcases k.b j hj q hq with⟨j2,hj2,e⟩|e
  ·exact h.b j2 hj2 q e
  ·exact .inr (yLt h.g.size e)
 ·rcases k.lo z hz with e|e
  ·exact h.lo z e
  ·exact .inr (yLt h.g.size e)
theorem gY.below(b:Below w.heap.size w w'):gY D w r B D w' B:=
 ⟨⟨b.size,fun z hz hd=>⟨hd,fun o=>World.cell?_of_block (b.block z hz)⟩⟩,⟨b.os,b.tape,b.output,b.size,fun z hz _=>b.block z hz⟩,fun j hj q hq=>.inl ⟨j,hj,hq⟩,fun z hz=>.inl hz⟩
theorem WQ.one{mu n:Int}{c:Nat->Cm}{t:TypeId}(h:WQ D w r mu n c vs B t)(hj:j<18)(g:bX (fun q=>q=r\/q∈B j) w w')(hn:∀q∈Bn,q∈B j\/w.heap.size<=q):gY D w r B (fun z=>(D z\/w.heap.size<=z)/\z≠r/\z∉Bn) w' (upd B j Bn):=by
 refine⟨h.keeps hj g hn,⟨g.os,g.tape,g.output,g.size,fun z hz hne=>g.block z hz fun e=>hne (e.imp id fun e=>⟨j,hj,e⟩)⟩,fun k hk q hq=>?_,fun z hz=>hz.1⟩
 unfold upd at hq
 split at hq
 ·exact(hn q hq).imp (fun e=>⟨j,hj,e⟩) id
 ·exact .inl ⟨k,hk,hq⟩
theorem Ii{c:Nat->Cm}{x:Cm}(h:c j=x):upd c j x=c:=by
 funext k;unfold upd;split
 ·next e=>rw[e,h]
 ·rfl
theorem bb4{c:Nat->Cm}{x y:Cm}:upd (upd c j x) j y=upd c j y:=by
 funext k;unfold upd;split<;>rfl
theorem g7x{B:List Nat}{a b:World}(g:bX (fun q=>q∈B) a b):bX (fun q=>q=r\/q∈B) a b:=⟨g.os,g.tape,g.output,g.size,fun z hz hn=>g.block z hz fun e=>hn (.inr e)⟩
theorem uM{w w3 wj:World}(h:Keeps D w D w3)(b:Below w3.heap.size w3 wj):Keeps D w D wj:=⟨yLt h.1 b.size,fun z hz hd=>⟨hd,fun o=>(World.cell?_of_block (b.block z (yLl hz h.1))).trans ((h.2 z hz hd).2 o)⟩⟩
theorem qg{k:Nat}(h:RA D w (.row k l) v):∃a n c,v=.slice a n c:=by
 cases h with
 |row _ _ _ _ _=>exact⟨_,_,_,rfl⟩
theorem La {D : Nat -> Prop} {w : World} {r : Nat} {n : Int} {c : Nat -> Cm} {vs : List Value} {B : Nat -> List Nat} {t : TypeId} (h : WQ D w r 1 n c vs B t) (hG : pI gTab D w) {i : Nat} (hi : i < 8) {p : PS} {y : BS} {L : List Ap} (hcp : c i = jG (.sref (aP p) 0)) (hcb : c (8 + i) = Jo y) (hca : c 17 = Lh L) (hL : L.length <= 1000) {nn fr dr : Int} {m : Nat} {ops : List Int} {vo vy : Value} (AF : RA D w (.row m [.ints .i64 (m * 5) ops]) vo) (hm : m <= 1000000) (hol : ops.length = m * 5) (hdr : -9223372036854775808 <= dr /\ dr <= 9223372036854775807) (hyf : y.f <= 1000)
    (hwf : yZ y p.e := by assumption)
    (bA7 : (nn == 1) = false := by assumption)
    :
    Calls Tryz.prog 28 #[.pointer (some ⟨r, 0, none⟩), .agg (y8 i nn fr vo dr vy)] w fun e w' => e = .returned (.int .i64 (jZ p y L fr ops m nn dr).1) /\ ∃ D' vs' B', WQ D' w' r 1 n (upd (upd c (8 + i) (Jo (jZ p y L fr ops m nn dr).2.1)) 17 (Lh (jZ p y L fr ops m nn dr).2.2)) vs' B' t /\ gY D w r B D' w' B' := by
  have i8 : (i : Int) < 8 := by omega
  have i0 : ¬ (i : Int) < 0 := by omega
  have hpa := h.RQ (j := i) (by omega) hcp
  obtain ⟨pa, hpv⟩ := PK (by simp) hpa
  obtain ⟨ba, hbv⟩ : ∃ ba, vs.getD (8 + i) undef = .pointer (some ba) := by
    have := h.at' (8 + i) (by omega)
    rw [hcb] at this
    obtain ⟨q, G, _, hv, _⟩ := this
    exact ⟨_, hv⟩
  have c1 : (w.alloc (.cells (y8 i nn fr vo dr vy) 37)).cell? ⟨w.heap.size, 1, none⟩ = some (.int .i64 (i : Nat)) := by rw [(aM.new w _ 37).cell]; rfl
  have c2 : (w.alloc (.cells (y8 i nn fr vo dr vy) 37)).cell? ⟨r, 3 + i, none⟩ = some (.pointer (some pa)) := by rw [<- hpv, (h.blk.alloc _).cell, <- h.blk.cell]; exact h.Ve (by omega)
  have c3 : (w.alloc (.cells (y8 i nn fr vo dr vy) 37)).cell? ⟨r, 11 + i, none⟩ = some (.pointer (some ba)) := by rw [<- hbv, (h.blk.alloc _).cell, <- h.blk.cell, show 11 + i = 3 + (8 + i) by omega]; exact h.Ve (by omega)
  have hbl : Below w.heap.size w (w.alloc (.cells (y8 i nn fr vo dr vy) 37)) := (Below.refl _ _).alloc (yLr _) _
  have C1 := yHd c1; have C2 := yHd c2; have C3 := yHd c3; have BL := yHd hbl; have HQ := yHd h; have HG := yHd hG; have HVO := yHd AF; have HPA := yHd hpa; have HPV := yHd hpv; have HBV := yHd hbv
  clear c1 c2 c3 hbl h hG AF hpa hpv hbv
  go_enter Tryz.func28, Tryz.ntmps28
  go_wp2_with fail
  refine ku (JR (wJ r w.heap.size i (.pointer (some pa)) (.pointer (some ba))) (w.alloc (.cells (y8 i nn fr vo dr vy) 37)).drew) [[], [], [1], [0], [3], [4, 2], [5], [], [], [8], [7], [10], [11, 9], [12], [6], [13]] (by kernel_rfl) (by kernel_rfl) (by kernel_rfl) ⟨fun k x hk => Bool.noConfusion hk, rfl⟩ ?_ ?_
  · refine ⟨?_, ?_, ?_, ?_, ?_, ?_, ?_, ?_, ?_, ?_, ?_, ?_, ?_, ?_, ?_, ?_, trivial⟩
    · intro S vals wj hJ fK hD hcl
      obtain rfl := hJ.same
      have q := hJ.pure (show wJ r w.heap.size i (.pointer (some pa)) (.pointer (some ba)) 0 = some (.pointer (some ⟨r, 0, none⟩)) from rfl)
      refine jX (v := .pointer (some ⟨r, 0, none⟩)) rfl ?_ q
      simp [execOp, aG, Act.put, Act.eval, Instr.fieldAt, go_sem]
    · intro S vals wj hJ fK hD hcl
      obtain rfl := hJ.same
      have q := hJ.pure (show wJ r w.heap.size i (.pointer (some pa)) (.pointer (some ba)) 1 = some (.pointer (some ⟨w.heap.size, 1, none⟩)) from rfl)
      refine jX (v := .pointer (some ⟨w.heap.size, 1, none⟩)) rfl ?_ q
      simp [execOp, aG, Act.put, Act.eval, Instr.fieldAt, go_sem]
    · intro S vals wj hJ fK hD hcl
      obtain rfl := hJ.same
      have d1 := hJ.val 1 _ (hD 1 (by simp)) rfl
      have q := hJ.pure (show wJ r w.heap.size i (.pointer (some pa)) (.pointer (some ba)) 2 = some (.int .i64 (i : Nat)) from rfl)
      have c : (w.alloc (.cells (y8 i nn fr vo dr vy) 37)).drew.cell? ⟨w.heap.size, 1, none⟩ = some (.int .i64 (i : Nat)) := C1.out
      refine jX (v := .int .i64 (i : Nat)) rfl ?_ q
      simp [execOp, aG, Act.put, Act.eval, Instr.fieldAt, go_sem, d1, c]
    · intro S vals wj hJ fK hD hcl
      obtain rfl := hJ.same
      have d0 := hJ.val 0 _ (hD 0 (by simp)) rfl
      have q := hJ.pure (show wJ r w.heap.size i (.pointer (some pa)) (.pointer (some ba)) 3 = some (.pointer (some ⟨r, 0, none⟩)) from rfl)
      refine jX (v := .pointer (some ⟨r, 0, none⟩)) rfl ?_ q
      simp [execOp, aG, Act.put, Act.eval, Instr.fieldAt, go_sem, d0]
    · intro S vals wj hJ fK hD hcl
      obtain rfl := hJ.same
      have d3 := hJ.val 3 _ (hD 3 (by simp)) rfl
      have q := hJ.pure (show wJ r w.heap.size i (.pointer (some pa)) (.pointer (some ba)) 4 = some (.pointer (some ⟨r, 3, none⟩)) from rfl)
      refine jX (v := .pointer (some ⟨r, 3, none⟩)) rfl ?_ q
      simp [execOp, aG, Act.put, Act.eval, Instr.fieldAt, go_sem, d3]
    · intro S vals wj hJ fK hD hcl
      obtain rfl := hJ.same
      have d4 := hJ.val 4 _ (hD 4 (by simp)) rfl
      have d2 := hJ.val 2 _ (hD 2 (by simp)) rfl
      have q := hJ.pure (show wJ r w.heap.size i (.pointer (some pa)) (.pointer (some ba)) 5 = some (.pointer (some ⟨r, 3 + i, none⟩)) from rfl)
      refine jX (v := .pointer (some ⟨r, 3 + i, none⟩)) rfl ?_ q
      simp [execOp, aG, Act.put, Act.eval, Instr.fieldAt, go_sem, d4, d2, i8]
    · intro S vals wj hJ fK hD hcl
      obtain rfl := hJ.same
      have d5 := hJ.val 5 _ (hD 5 (by simp)) rfl
      have q := hJ.pure (show wJ r w.heap.size i (.pointer (some pa)) (.pointer (some ba)) 6 = some (.pointer (some pa)) from rfl)
      have c : (w.alloc (.cells (y8 i nn fr vo dr vy) 37)).drew.cell? ⟨r, 3 + i, none⟩ = some (.pointer (some pa)) := C2.out
      refine jX (v := .pointer (some pa)) rfl ?_ q
      simp [execOp, aG, Act.put, Act.eval, Instr.fieldAt, go_sem, d5, c]
    · intro S vals wj hJ fK hD hcl
      obtain rfl := hJ.same
      have q := hJ.pure (show wJ r w.heap.size i (.pointer (some pa)) (.pointer (some ba)) 7 = some (.pointer (some ⟨r, 0, none⟩)) from rfl)
      refine jX (v := .pointer (some ⟨r, 0, none⟩)) rfl ?_ q
      simp [execOp, aG, Act.put, Act.eval, Instr.fieldAt, go_sem]
    · intro S vals wj hJ fK hD hcl
      obtain rfl := hJ.same
      have q := hJ.pure (show wJ r w.heap.size i (.pointer (some pa)) (.pointer (some ba)) 8 = some (.pointer (some ⟨w.heap.size, 1, none⟩)) from rfl)
      refine jX (v := .pointer (some ⟨w.heap.size, 1, none⟩)) rfl ?_ q
      simp [execOp, aG, Act.put, Act.eval, Instr.fieldAt, go_sem]
    · intro S vals wj hJ fK hD hcl
      obtain rfl := hJ.same
      have d8 := hJ.val 8 _ (hD 8 (by simp)) rfl
      have q := hJ.pure (show wJ r w.heap.size i (.pointer (some pa)) (.pointer (some ba)) 9 = some (.int .i64 (i : Nat)) from rfl)
      have c : (w.alloc (.cells (y8 i nn fr vo dr vy) 37)).drew.cell? ⟨w.heap.size, 1, none⟩ = some (.int .i64 (i : Nat)) := C1.out
      refine jX (v := .int .i64 (i : Nat)) rfl ?_ q
      simp [execOp, aG, Act.put, Act.eval, Instr.fieldAt, go_sem, d8, c]
    · intro S vals wj hJ fK hD hcl
      obtain rfl := hJ.same
      have d7 := hJ.val 7 _ (hD 7 (by simp)) rfl
      have q := hJ.pure (show wJ r w.heap.size i (.pointer (some pa)) (.pointer (some ba)) 10 = some (.pointer (some ⟨r, 0, none⟩)) from rfl)
      refine jX (v := .pointer (some ⟨r, 0, none⟩)) rfl ?_ q
      simp [execOp, aG, Act.put, Act.eval, Instr.fieldAt, go_sem, d7]
    · intro S vals wj hJ fK hD hcl
      obtain rfl := hJ.same
      have RO := hJ.val 10 _ (hD 10 (by simp)) rfl
      have q := hJ.pure (show wJ r w.heap.size i (.pointer (some pa)) (.pointer (some ba)) 11 = some (.pointer (some ⟨r, 11, none⟩)) from rfl)
      refine jX (v := .pointer (some ⟨r, 11, none⟩)) rfl ?_ q
      simp [execOp, aG, Act.put, Act.eval, Instr.fieldAt, go_sem, RO]
    · intro S vals wj hJ fK hD hcl
      obtain rfl := hJ.same
      have d11 := hJ.val 11 _ (hD 11 (by simp)) rfl
      have d9 := hJ.val 9 _ (hD 9 (by simp)) rfl
      have q := hJ.pure (show wJ r w.heap.size i (.pointer (some pa)) (.pointer (some ba)) 12 = some (.pointer (some ⟨r, 11 + i, none⟩)) from rfl)
      refine jX (v := .pointer (some ⟨r, 11 + i, none⟩)) rfl ?_ q
      simp [execOp, aG, Act.put, Act.eval, Instr.fieldAt, go_sem, d11, d9, i8]
    · intro S vals wj hJ fK hD hcl
      obtain rfl := hJ.same
      have d12 := hJ.val 12 _ (hD 12 (by simp)) rfl
      have q := hJ.pure (show wJ r w.heap.size i (.pointer (some pa)) (.pointer (some ba)) 13 = some (.pointer (some ba)) from rfl)
      have c : (w.alloc (.cells (y8 i nn fr vo dr vy) 37)).drew.cell? ⟨r, 11 + i, none⟩ = some (.pointer (some ba)) := C3.out
      refine jX (v := .pointer (some ba)) rfl ?_ q
      simp [execOp, aG, Act.put, Act.eval, Instr.fieldAt, go_sem, d12, c]
    · intro S vals wj hJ fK hD hcl
      obtain rfl := hJ.same
      have d6 := hJ.val 6 _ (hD 6 (by simp)) rfl
      have q := hJ.pure (show wJ r w.heap.size i (.pointer (some pa)) (.pointer (some ba)) 14 = some (.pointer (some pa)) from rfl)
      refine jX (v := .pointer (some pa)) rfl ?_ q
      simp [execOp, aG, Act.put, Act.eval, Instr.fieldAt, go_sem, d6]
    · intro S vals wj hJ fK hD hcl
      obtain rfl := hJ.same
      have d13 := hJ.val 13 _ (hD 13 (by simp)) rfl
      have q := hJ.pure (show wJ r w.heap.size i (.pointer (some pa)) (.pointer (some ba)) 15 = some (.pointer (some ba)) from rfl)
      refine jX (v := .pointer (some ba)) rfl ?_ q
      simp [execOp, aG, Act.put, Act.eval, Instr.fieldAt, go_sem, d13]
  · intro vals wz hJ
    obtain rfl := hJ.same
    have e0 := hJ.val 0 _ rfl rfl
    have e1 := hJ.val 1 _ rfl rfl
    have e2 := hJ.val 2 _ rfl rfl
    have e3 := hJ.val 3 _ rfl rfl
    have e4 := hJ.val 4 _ rfl rfl
    have e5 := hJ.val 5 _ rfl rfl
    have e6 := hJ.val 6 _ rfl rfl
    have e7 := hJ.val 7 _ rfl rfl
    have e8 := hJ.val 8 _ rfl rfl
    have e9 := hJ.val 9 _ rfl rfl
    have e10 := hJ.val 10 _ rfl rfl
    have e11 := hJ.val 11 _ rfl rfl
    have e12 := hJ.val 12 _ rfl rfl
    have e13 := hJ.val 13 _ rfl rfl
    have e14 := hJ.val 14 _ rfl rfl
    have e15 := hJ.val 15 _ rfl rfl
    simp [aG, List.range, List.range.loop, Act.put, e0, e1, e2, e3, e4, e5, e6, e7, e8, e9, e10, e11, e12, e13, e14, e15]
    clear hJ e0 e1 e2 e3 e4 e5 e6 e7 e8 e9 e10 e11 e12 e13 e14 e15
    obtain ⟨wa, Ep⟩ : ∃ wa, wa = (w.alloc (.cells (y8 i nn fr vo dr vy) 37)).drew := ⟨_, rfl⟩
    have hba : Below w.heap.size w wa := by rw [Ep]; exact ⟨BL.out.os, BL.out.tape, BL.out.output, BL.out.size, BL.out.block⟩
    have hAa : aM wa w.heap.size (y8 i nn fr vo dr vy) 37 := by rw [Ep]; exact (aM.newAt _ _ rfl).drew
    have hka : Keeps D w D wa := ⟨hba.size, fun z hz hd => ⟨hd, fun o => World.cell?_of_block (hba.block z hz)⟩⟩
    rw [<- Ep]
    have BA := yHd hba; have AA := yHd hAa; have KA := yHd hka
    clear Ep hba hAa hka C1 C2 C3 BL
    go_wp2_with (first
      | (go_at_call 12; refine (EM p D wa [.pointer (some pa)] (HG.out.up KA.out) (.cons (by (have := HPA.out.up KA.out); rw [HPV.out] at this; exact this) .nil)).mono ?_; rintro e w2 ⟨v2, rfl, k1, k2⟩; obtain ⟨cv, rfl, k3⟩ := Mx k1; have hsz : cv.size = 73 := (by have := k3.len; simpa [dM, Seg.n] using this); have VC := yHd k3; have B2 := yHd k2; have SZ := yHd hsz; clear k1 k2 k3 hsz)
      | (refine wpList_store_row rfl 48 _ _ rfl w2.heap.size cv rfl rfl 48 _ (aM.newAt _ _ rfl) (by rw [SZ.out]; kernel_rfl) (by rw [SZ.out]; kernel_rfl) (K8 VC.out.one) ?_
         refine BF (fun w3 hw3 => ?_)
         have hv3 : aM w3 w2.heap.size cv 48 := (by rw [hw3]; exact (aM.newAt _ _ rfl).setRow _)
         have hb3 : Below wa.heap.size wa w3 := (by rw [hw3]; exact U4 ((B2.out).alloc B2.out.size _) B2.out.size)
         have V3 := yHd hv3; have B3 := yHd hb3
         clear hw3 hv3 hb3))
    obtain ⟨tvl, htv⟩ : ∃ l, l = IK p.e p.zs p.ad p.k p.ch p.lf (aI p.sg) fr ops m := ⟨_, rfl⟩
    obtain ⟨er, her⟩ : ∃ e, e = uo p.e p.zs p.ad p.k p.lf (aI p.sg) fr ops m := ⟨_, rfl⟩
    obtain ⟨tv, htc⟩ : ∃ a, a = (tvl.map fun z => Value.int .i64 z).toArray := ⟨_, rfl⟩
    have hts : tv.size = 3 := by rw [htc, htv]; simp [Nq]
    obtain ⟨ap, hap⟩ : ∃ ap : Ap, ap = apA p fr ops m := ⟨_, rfl⟩
    have cd9 : ap = ⟨bW p.e p.zs p.ad p.k p.ch fr ops, tvl.getD 0 0, tvl.getD 1 0, tvl.getD 2 0⟩ := by rw [hap, htv]; rfl
    have HAP := yHd hap; have bK8 := yHd cd9; clear hap cd9
    have htl : tvl.length = 3 := by rw [htv]; exact Nq _ _ _ _ _ _ _ _ _ _
    have HTL := yHd htl; clear htl
    have TS := yHd hts; have TC := yHd htc; have TV := yHd htv; have ER := yHd her
    clear hts htc htv her
    have kw3 : Keeps D w D w3 := ⟨yLt BA.out.size B3.out.size, fun z hz hd => ⟨hd, fun o => World.cell?_of_block ((B3.out.block z (yLl hz BA.out.size)).trans (BA.out.block z hz))⟩⟩
    have A3 : aM w3 w.heap.size (y8 i nn fr vo dr vy) 37 := (B3.out.block _ AA.out.lt).trans AA.out
    have K3 := yHd kw3; have A3h := yHd A3
    clear kw3 A3
    refine ku (JA (co2 w.heap.size pa cv tv p.lf fr er vo) w3.drew (aI p.sg) tv) [[], [], [1], [], [2, 3], [], [5], [], [7], [0, 2, 4, 6, 8], [9], [10], [10], [], [13, 11, 9], [12]] (by kernel_rfl) (by kernel_rfl) (by kernel_rfl) ⟨Below.refl _ _, fun k x hk => Bool.noConfusion hk, fun hk => Bool.noConfusion hk, fun hk => Bool.noConfusion hk, fun hk => Bool.noConfusion hk⟩ ?_ ?_
    · refine ⟨?_, ?_, ?_, ?_, ?_, ?_, ?_, ?_, ?_, ?_, ?_, ?_, ?_, ?_, ?_, ?_, trivial⟩
      · intro S vals wj hJ fK hD hcl
        have hb : aM wj w2.heap.size cv 48 := (hJ.iE.block _ V3.out.lt).trans V3.out
        have := run_loadVar_row (P := Tryz.prog) wj w2.heap.size 48 48 cv (0, 0) _ hb Tryz.underlying48 rfl (by rw [SZ.out]; kernel_rfl)
        exact jX rfl (gq rfl (by simp [aG, Act.put, Act.eval]) this) (hJ.pure (j := 0) rfl (by decide) (by decide) (by decide))
      · intro S vals wj hJ fK hD hcl
        refine jX rfl ?_ (hJ.pure (j := 1) rfl (by decide) (by decide) (by decide))
        simp [execOp, aG, Act.put, Act.eval, Instr.fieldAt, go_sem]
      · intro S vals wj hJ fK hD hcl
        have d1 := hJ.val 1 _ (hD 1 (by simp)) rfl
        refine opc (f := 14) (args := #[.pointer (some pa)]) rfl (by simp [execOp, aG, Act.put, Act.eval, resolve, invoke, go_sem, d1]) ?_
        refine (Bf p D wj [.pointer (some pa)] (HG.out.up (uM K3.out (j4 hJ.iE))) (.cons (by (have := HPA.out.up (uM K3.out (j4 hJ.iE))); rw [HPV.out] at this; exact this) .nil)).mono ?_
        rintro e w' ⟨v, rfl, k1, k2⟩
        obtain rfl := qw k1
        exact ⟨_, rfl, hJ.step k2 rfl (by decide) (by decide) (by decide)⟩
      · intro S vals wj hJ fK hD hcl
        refine jX rfl ?_ (hJ.pure (j := 3) rfl (by decide) (by decide) (by decide))
        simp [execOp, aG, Act.put, Act.eval, Instr.fieldAt, go_sem]
      · intro S vals wj hJ fK hD hcl
        have d3 := hJ.val 3 _ (hD 3 (by simp)) rfl
        refine opc (f := 48) (args := #[.pointer (some pa)]) rfl (by simp [execOp, aG, Act.put, Act.eval, resolve, invoke, go_sem, d3]) ?_
        refine (KD p D wj [.pointer (some pa)] (HG.out.up (uM K3.out (j4 hJ.iE))) (.cons (by (have := HPA.out.up (uM K3.out (j4 hJ.iE))); rw [HPV.out] at this; exact this) .nil)).mono ?_
        rintro e w' ⟨v, rfl, ⟨q, rfl, k1, ⟨cs, ty, k3, k4⟩⟩, k2⟩
        exact ⟨_, rfl, hJ.sign rfl k2 k1 (yAe.1 k3).1 ⟨cs, ty, k3, k4⟩⟩
      · intro S vals wj hJ fK hD hcl
        refine jX rfl ?_ (hJ.pure (j := 5) rfl (by decide) (by decide) (by decide))
        simp [execOp, aG, Act.put, Act.eval, Instr.fieldAt, go_sem]
      · intro S vals wj hJ fK hD hcl
        have d5 := hJ.val 5 _ (hD 5 (by simp)) rfl
        have cc : wj.cell? ⟨w.heap.size, 3, none⟩ = some (.int .i64 fr) := (World.cell?_of_block (hJ.iE.block _ A3h.out.lt)).trans ((A3h.out.cell 3).trans rfl)
        refine jX rfl ?_ (hJ.pure (j := 6) rfl (by decide) (by decide) (by decide))
        simp [execOp, aG, Act.put, Act.eval, Instr.fieldAt, go_sem, d5, cc]
      · intro S vals wj hJ fK hD hcl
        refine jX rfl ?_ (hJ.pure (j := 7) rfl (by decide) (by decide) (by decide))
        simp [execOp, aG, Act.put, Act.eval, Instr.fieldAt, go_sem]
      · intro S vals wj hJ fK hD hcl
        have d7 := hJ.val 7 _ (hD 7 (by simp)) rfl
        have cc : wj.cell? ⟨w.heap.size, 4, none⟩ = some vo := (World.cell?_of_block (hJ.iE.block _ A3h.out.lt)).trans ((A3h.out.cell 4).trans rfl)
        obtain ⟨va, vn, vc, AF⟩ := qg HVO.out
        refine jX rfl ?_ (hJ.pure (j := 8) rfl (by decide) (by decide) (by decide))
        rw [AF] at cc ⊢
        simp [execOp, aG, Act.put, Act.eval, Instr.fieldAt, go_sem, d7, cc]
      · intro S vals wj hJ fK hD hcl
        have d0 := hJ.val 0 _ (hD 0 (by simp)) rfl
        have d2 := hJ.val 2 _ (hD 2 (by simp)) rfl
        have d6 := hJ.val 6 _ (hD 6 (by simp)) rfl
        have d8 := hJ.val 8 _ (hD 8 (by simp)) rfl
        obtain ⟨q, k1, k2, k3, k4⟩ := hJ.x4 (hD 4 (by simp))
        have hkj := uM K3.out (j4 hJ.iE)
        have hqw : w.heap.size <= q := yLt K3.out.1 k2
        have kq : Keeps D w (fun z => D z /\ z ≠ q) wj := ⟨hkj.1, fun z hz hd => ⟨⟨hd, by omega⟩, (hkj.2 z hz hd).2⟩⟩
        have hav : RA (fun z => D z /\ z ≠ q) wj (.agg (eD p.e p.zs p.ad p.k p.ch)) (.agg cv) := rE rfl (Kq VC.out)
        refine opc (f := 47) (args := #[.agg cv, .int .i64 p.lf, .pointer (some ⟨q, 0, none⟩), .int .i64 fr, vo]) rfl (by simp [execOp, aG, Act.put, Act.eval, resolve, invoke, go_sem, d0, d2, k1, d6, d8]) ?_
        refine (Rb p.e p.zs p.ad p.k p.ch p.lf (aI p.sg) (iq _) fr ops m hm D wj q [.agg cv, .int .i64 p.lf, .int .i64 fr, vo] k3 (HG.out.up kq) k4 (.cons hav (.cons (.v _) (.cons (.v _) (.cons (HVO.out.up kq) .nil))))).mono ?_
        rintro e w' ⟨v, rfl, ⟨vs', rfl, h1⟩, h2, h3⟩
        rw [aL1] at h1
        obtain rfl : vs' = [.agg tv, .int .i64 er] := by
          cases h1 with
          | cons a1 a2 => cases a2 with
            | cons a3 a4 =>
              cases a4; cases a3
              obtain ⟨ct, rfl, h5⟩ := Mx a1
              obtain ⟨_, h6⟩ := h5.fB
              rw [TC.out, TV.out, <- h6, ER.out]
        exact ⟨_, rfl, hJ.cn8 (hD 4 (by simp)) k1 rfl h3 h2⟩
      · intro S vals wj hJ fK hD hcl
        have d9 := hJ.val 9 _ (hD 9 (by simp)) rfl
        refine jX rfl ?_ (hJ.pure (j := 10) rfl (by decide) (by decide) (by decide))
        simp [execOp, aG, Act.put, Act.eval, Instr.fieldAt, go_sem, d9]
      · intro S vals wj hJ fK hD hcl
        have RO := hJ.val 10 _ (hD 10 (by simp)) rfl
        refine jX rfl ?_ (hJ.pure (j := 11) rfl (by decide) (by decide) (by decide))
        simp [execOp, aG, Act.put, Act.eval, Instr.fieldAt, go_sem, RO]
      · intro S vals wj hJ fK hD hcl
        have RO := hJ.val 10 _ (hD 10 (by simp)) rfl
        refine jX rfl ?_ (hJ.pure (j := 12) rfl (by decide) (by decide) (by decide))
        simp [execOp, aG, Act.put, Act.eval, Instr.fieldAt, go_sem, RO]
      · intro S vals wj hJ fK hD hcl
        have JU : S 14 = false := by cases h : S 14 with | false => rfl | true => have := hcl 14 h 13 (by simp); rw [fK] at this; cases this
        refine jX rfl ?_ (hJ.alloc rfl JU (zc := #[.int .i64 0, .int .i64 0, .int .i64 0]) (by rw [TS.out]; rfl))
        simp [execOp, aG, Act.put, Act.eval, Instr.fieldAt, go_sem]
      · intro S vals wj hJ fK hD hcl
        have d11 := hJ.val 11 _ (hD 11 (by simp)) rfl
        obtain ⟨q, zc, k1, k2, k3, k4, k5⟩ := hJ.x13 (hD 13 (by simp))
        rw [fK, if_neg Bool.false_ne_true] at k4
        refine ay0 rfl ?_ (hJ.store rfl (hD 13 (by simp)) k1 undef)
        exact wL 103 _ _ rfl q tv (by simp [aG, Act.put, Act.eval, k1]) (by simp [aG, Act.put, Act.eval, d11]) 103 zc k4 (by rw [TS.out]; kernel_rfl) k5 (by rw [TC.out]; exact K8 fun v hv => by simp at hv; obtain ⟨z, _, rfl⟩ := hv; rfl)
      · intro S vals wj hJ fK hD hcl
        have d12 := hJ.val 12 _ (hD 12 (by simp)) rfl
        refine jX rfl ?_ (hJ.pure (j := 15) rfl (by decide) (by decide) (by decide))
        simp [execOp, aG, Act.put, Act.eval, Instr.fieldAt, go_sem, d12]
    · intro vals wz hJ
      have e0 := hJ.val 0 _ rfl rfl
      have e1 := hJ.val 1 _ rfl rfl
      have e2 := hJ.val 2 _ rfl rfl
      have e3 := hJ.val 3 _ rfl rfl
      have e5 := hJ.val 5 _ rfl rfl
      have e6 := hJ.val 6 _ rfl rfl
      have e7 := hJ.val 7 _ rfl rfl
      have e8 := hJ.val 8 _ rfl rfl
      have e9 := hJ.val 9 _ rfl rfl
      have e10 := hJ.val 10 _ rfl rfl
      have e11 := hJ.val 11 _ rfl rfl
      have e12 := hJ.val 12 _ rfl rfl
      have e15 := hJ.val 15 _ rfl rfl
      obtain ⟨q4, e4, _, _, _⟩ := hJ.x4 rfl
      obtain ⟨q13, zc, e13, k2, k3, k4, _⟩ := hJ.x13 rfl
      have k4 : aM wz q13 tv 103 := k4
      have hbz := j4 hJ.iE
      have KZ := yHd k4; have QZ := yHd k2; have BZ := yHd hbz
      simp [aG, List.range, List.range.loop, Act.put, e0, e1, e2, e3, e4, e5, e6, e7, e8, e9, e10, e11, e12, e13, e15]
      clear hJ e0 e1 e2 e3 e4 e5 e6 e7 e8 e9 e10 e11 e12 e13 e15 k2 k3 k4 hbz
      obtain ⟨va, vn, vc, AF⟩ := qg HVO.out
      subst AF
      have zv : aM wz w2.heap.size cv 48 := (BZ.out.block _ V3.out.lt).trans V3.out
      have za : aM wz w.heap.size (y8 i nn fr (.slice va vn vc) dr vy) 37 := (BZ.out.block _ A3h.out.lt).trans A3h.out
      have kz := uM K3.out BZ.out
      have cz2 : wz.cell? ⟨w.heap.size, 2, none⟩ = some (.int .i64 nn) := (za.cell 2).trans rfl
      have cz3 : wz.cell? ⟨w.heap.size, 3, none⟩ = some (.int .i64 fr) := (za.cell 3).trans rfl
      have cz4 : wz.cell? ⟨w.heap.size, 4, none⟩ = some (.slice va vn vc) := (za.cell 4).trans rfl
      have hwz : w.heap.size < w2.heap.size /\ w2.heap.size < w3.heap.size /\ w3.heap.size <= wz.heap.size /\ q13 < wz.heap.size := ⟨yLl AA.out.lt B2.out.size, V3.out.lt, BZ.out.size, KZ.out.lt⟩
      have hqz := QZ.out
      have ZV := yHd zv; have ZA := yHd za; have ZK := yHd kz; have HN := yHd hwz; have HQZ := yHd hqz
      clear zv za kz hwz hqz QZ
      obtain ⟨P, hP⟩ : ∃ P, P = bW p.e p.zs p.ad p.k p.ch fr ops := ⟨_, rfl⟩
      have hPl : P.length = 32 := by rw [hP]; exact oh _ _ _ _ _ _ _
      have hps : (HC P).size = 32 := by rw [dO, hPl]
      have HP := yHd hP; have HPL := yHd hPl; have HPS := yHd hps
      clear hP hPl hps
      obtain ⟨we, hwe⟩ : ∃ we, we = zS y p.e P := ⟨_, rfl⟩
      have HWE := yHd hwe
      clear hwe
      by_cases he : er = 0
      · subst he
        go_wp2_with (first
          | (refine ko rfl ?_; refine wpList_load_row rfl 48 _ rfl w2.heap.size rfl 48 cv (0, 0) _ ZV.out Tryz.underlying48 rfl (by rw [SZ.out]; kernel_rfl) ?_)
          | (go_at_call 49; refine (Gu p.e p.zs p.ad p.k p.ch fr ops m hol hm D wz [.agg cv, .int .i64 fr, .slice va vn vc] (HG.out.up ZK.out) (.cons (rE rfl (Kq VC.out)) (.cons (.v _) (.cons (HVO.out.up ZK.out) .nil)))).mono ?_; rintro e w4 ⟨v4, rfl, k1, k2⟩; obtain rfl : v4 = .agg (HC P) := ce3 HP.out k1; have B4 := yHd k2; clear k1 k2)
          | (refine wpList_store_row rfl 28 _ _ rfl w4.heap.size (HC P) rfl rfl 28 _ (aM.newAt _ _ rfl) (by rw [HPS.out]; kernel_rfl) (by rw [HPS.out]; kernel_rfl) (wh _) ?_
             refine BF (fun w6 hw6 => ?_)
             have hv6 : aM w6 w4.heap.size (HC P) 28 := (by rw [hw6]; exact (aM.newAt _ _ rfl).setRow _)
             have hb6 : Below wz.heap.size wz w6 := (by rw [hw6]; exact U4 ((B4.out).alloc B4.out.size _) B4.out.size)
             have ce6 : w6.cell? ⟨w2.heap.size, 0, none⟩ = some (.int .i64 p.e) := (World.cell?_of_block (hb6.block _ ZV.out.lt)).trans ((ZV.out.cell 0).trans (ag2 VC.out))
             have hQ6 := HQ.out.keep (Ee hb6 (BZ.out) B3.out BA.out)
             have V6 := yHd hv6; have B6 := yHd hb6; have Q6 := yHd hQ6; have N4 := yHd B4.out.size
             clear hw6 hv6 hb6 hQ6)
          | (refine ko rfl ?_; refine wpList_load_row rfl 28 _ rfl w4.heap.size rfl 28 (HC P) (0, 0) _ V6.out Tryz.underlying28 rfl (by rw [HPS.out]; kernel_rfl) ?_)
          | (go_at_call 50; refine (be7 HBV.out (be6 Q6.out (8 + i) (by omega) hcb (ZH y p.e P) (HG.out.up (uM ZK.out B6.out)) (.cons (.v (.int .i64 p.e)) (.cons (aA2 HPL.out) .nil)))).mono ?_; rintro e w7 ⟨v7, Bn, N7, rfl, hq7, hg7, hr7, hn7⟩; obtain rfl : v7 = .int .i64 we := (by rw [HWE.out]; exact qw hr7); have l7 : ∀ q, w.heap.size <= q -> q < w6.heap.size -> w7.heap[q]? = w6.heap[q]? := (fun q h1 h2 => hg7.block q h2 (fun hm => absurd (HQ.out.lt (by omega) hm) (by omega))); have a7 : aM w7 w.heap.size (y8 i nn fr (.slice va vn vc) dr vy) 37 := (l7 _ (yLr _) (yLl ZA.out.lt B6.out.size)).trans ((B6.out.block _ ZA.out.lt).trans ZA.out); have c71 : w7.cell? ⟨w.heap.size, 1, none⟩ = some (.int .i64 (i : Nat)) := ((a7.cell 1).trans rfl); have c72 : w7.cell? ⟨w.heap.size, 2, none⟩ = some (.int .i64 nn) := ((a7.cell 2).trans rfl); have c75 : w7.cell? ⟨w.heap.size, 5, none⟩ = some (.int .i64 dr) := ((a7.cell 5).trans rfl); have Q7 := yHd hq7; have G7 := yHd hg7; have N7h := yHd hn7; have L7 := yHd l7; clear hq7 hg7 hr7 hn7 a7 l7)
          | (go_at_call 51; refine (be7 HBV.out (be6 Q7.out (8 + i) (by omega) (x := jk y p.e P) (y := o8 (jk y p.e P)) (by simp [upd]) (XY (jk y p.e P) (by rw [ZG]; exact hyf)) (HG.out.up (Q6.out.bB6 ZK.out B6.out G7.out N7h.out)) .nil)).mono ?_; rintro e w8 ⟨v8, Bn8, N8', rfl, hq8, hg8, hr8, hn8⟩; obtain ⟨rl, rfl, hrl⟩ := hr8; obtain rfl := Rc hrl; have l8 : ∀ q, w.heap.size <= q -> q < w6.heap.size -> w8.heap[q]? = w7.heap[q]? := (fun q h1 h2 => hg8.block q (yLl h2 G7.out.size) (fun hm => (N7h.out q (by simpa [upd] using hm)).elim (fun e => absurd (HQ.out.lt (by omega) e) (by omega)) (fun e => absurd h2 (by omega)))); have s46 : w.heap.size <= w4.heap.size := (by have h1 := HN.out; have h2 := N4.out; omega); have s13 : w.heap.size <= q13 := (by have h1 := HN.out; have h2 : w3.heap.size <= q13 := HQZ.out; omega); have z6 : q13 < w6.heap.size := (yLl HN.out.2.2.2 B6.out.size); have hv8 : aM w8 w4.heap.size (HC P) 28 := (l8 _ s46 V6.out.lt).trans ((L7.out _ s46 V6.out.lt).trans V6.out); have ht8 : aM w8 q13 tv 103 := (l8 _ s13 z6).trans ((L7.out _ s13 z6).trans ((B6.out.block _ HN.out.2.2.2).trans KZ.out)); have kb := Xv HPL.out HTL.out; rw [<- TC.out] at kb; rw [show (⟨P, tvl.getD 0 0, tvl.getD 1 0, tvl.getD 2 0⟩ : Ap) = ap from (by rw [bK8.out, HP.out])] at kb; have gk : pI gTab (fun _ => True) w8 := HG.out.up (Yk (yLt (ZK.out.1) (yLt B6.out.size (yLt G7.out.size hg8.size))) (fun z hz hd o => (by rw [World.cell?_of_block (l8x Q6.out HQ.out (by omega) hg8 N7h.out G7.out (yLl hz (yLt ZK.out.1 B6.out.size)) hd), World.cell?_of_block (B6.out.block z (yLl hz ZK.out.1)), (ZK.out.2 z hz hd).2]))); have V8 := yHd hv8; have T8 := yHd ht8; have KB8 := yHd kb; have GK8 := yHd gk; have Q8 := yHd hq8; have G8 := yHd hg8; have N8 := yHd hn8; clear hq8 hg8 hn8 hrl l8 hv8 ht8 kb gk)
          | (refine ko rfl ?_; refine wpList_load_row rfl 28 _ rfl w4.heap.size rfl 28 (HC P) (0, 0) _ V8.out Tryz.underlying28 rfl (by rw [HPS.out]; kernel_rfl) ?_)
          | (refine ko rfl ?_; refine wpList_load_row rfl 103 _ rfl q13 rfl 103 tv (0, 0) _ T8.out Tryz.underlying103 rfl (by rw [TS.out]; kernel_rfl) ?_; refine ko rfl ?_; refine M5 rfl 112 _ rfl (wu ap) (by simp [Act.put, Act.eval]; exact KB8.out) ?_)
          | (go_at_call 52; refine (ba4 Q8.out L ap (by unfold upd; rw [if_neg (by omega), if_neg (by omega)]; exact hca) GK8.out (by rw [bK8.out]; exact oh _ _ _ _ _ _ _) hL).mono ?_; rintro e w9 ⟨rfl, v9, Bn9, hq9, hg9, hn9⟩; have Q9 := yHd hq9; have G9 := yHd hg9; have N9 := yHd hn9; clear hq9 hg9 hn9))
        · have hw0 : ¬ we = 0 := by simpa using ‹(we != 0) = true›
          go_ret
          have hr : jZ p y L fr ops m nn dr = (we, jk y p.e P, L) := by unfold jZ; rw [<- ER.out, if_pos rfl, <- HP.out, <- HWE.out, if_neg hw0]
          rw [hr]
          have hb := Ee B6.out BZ.out B3.out BA.out
          have e17 : upd c (8 + i) (Jo (jk y p.e P)) 17 = Lh L := by unfold upd; rw [if_neg (by omega)]; exact hca
          refine ⟨rfl, _, vs, _, ?_, (gY.below hb).trans (Q6.out.one (j := 8 + i) (by omega) (g7x G7.out) N7h.out)⟩
          show WQ _ w7 r 1 n (upd (upd c (8 + i) (Jo (jk y p.e P))) 17 (Lh L)) vs _ t
          rw [Ii e17]
          exact Q7.out
        · have hw0 : we = 0 := by simpa using ‹(we != 0) = false›
          have hnn : ¬ nn = 1 := by simpa using ‹(nn == 1) = false›
          go_ret
          have hr : jZ p y L fr ops m nn dr = (0, o8 (jk y p.e P), pO L ap) := by unfold jZ; rw [<- ER.out, if_pos rfl, <- HP.out, <- HWE.out, if_pos hw0, if_neg hnn, <- HAP.out]
          rw [hr]
          have hb := Ee B6.out BZ.out B3.out BA.out
          refine ⟨rfl, _, vs.set 17 v9, _, ?_, (((gY.below hb).trans (Q6.out.one (j := 8 + i) (by omega) (g7x G7.out) N7h.out)).trans (Q7.out.one (j := 8 + i) (by omega) (g7x G8.out) N8.out)).trans (Q8.out.one (j := 17) (by omega) G9.out N9.out)⟩
          show WQ _ w9 r 1 n (upd (upd c (8 + i) (Jo (o8 (jk y p.e P)))) 17 (Lh (pO L ap))) _ _ t
          have := Q9.out
          rw [show upd (upd c (8 + i) (Jo (jk y p.e P))) (8 + i) (Jo (o8 (jk y p.e P))) = upd c (8 + i) (Jo (o8 (jk y p.e P))) from bb4] at this
          exact this
      · have he1 : (er != 0) = true := by simpa using he
        go_wp2_with fail
        go_ret
        have hr : jZ p y L fr ops m nn dr = (er, y, L) := by unfold jZ; rw [<- ER.out, if_neg he]
        rw [hr]
        have hb := Ee (Below.refl _ _) BZ.out B3.out BA.out
        refine ⟨rfl, D, vs, B, ?_, gY.below hb⟩
        rw [Ii hcb, Ii hca]
        exact HQ.out.keep hb
end
section
open Pm
theorem WQ.mu{w w1:World}{mu n mu' n':Int}{c:Nat->Cm}{t t':TypeId}(h:WQ D w r mu n c vs B t)(hb:aM w1 r (vF n' mu' vs).toArray t')(hg:w.grownBy w1 (some r)):WQ D w1 r mu' n' c vs B t':=
 ⟨h.len,hb,fun j hj=>(c j).up ⟨hg.size,fun z hz hd=>⟨hd,fun o=>World.cell?_of_block (hg.block z hz fun e=>(h.dat z hd).1 (by cases e;rfl))⟩⟩ (fun q hq=>hg.block q ((c j).lt (h.at' j hj) q hq) fun e=>h.ne j hj (by cases e;exact hq)) (h.at' j hj),h.ne,h.sep,h.dat⟩
theorem gY.own(g:w.grownBy w' (some r))(hD:∀z,D z->z≠r):gY D w r B D w' B:=
 ⟨⟨g.size,fun z hz hd=>⟨hd,fun o=>World.cell?_of_block (g.block z hz fun e=>hD z hd (by cases e;rfl))⟩⟩,⟨g.os,g.tape,g.output,g.size,fun z hz hn=>g.block z hz fun e=>hn (.inl (by cases e;rfl))⟩,fun j hj q hq=>.inl ⟨j,hj,hq⟩,fun z hz=>.inl hz⟩
theorem Iy(h:vs.length=18):∃ps bs po ap,ps.length=8/\bs.length=8/\vs=ps++(bs++[po,ap])/\∀n mu,vF n mu vs=WL n mu ps bs po ap:=by
 obtain⟨l,a,b,rfl,h16⟩:=last2 16 vs h
 refine⟨l.take 8,l.drop 8,a,b,by simp[h16],by simp[h16],?_,fun n mu=>?_⟩
 ·rw[<-List.append_assoc,List.take_append_drop]
 ·unfold vF WL
  rw[<-List.append_assoc (l.take 8),List.take_append_drop]
theorem Iw{n mu m:Int}:(vF n mu vs).toArray.setIfInBounds 1 (.int .i32 m)=(vF n m vs).toArray:=by
 rw[List.setIfInBounds_toArray];rfl
structure cn6(D:Nat->Prop)(w:World)(r:Nat)(mu n:Int)(c':Nat->Cm)(B:Nat->List Nat)(t:TypeId)(w':World):Prop where
 out:∃D' vs' B',WQ D' w' r mu n c' vs' B' t/\gY D w r B D' w' B'
theorem aE7{c:Nat->Cm}{t:TypeId}(h:WQ D w r 0 n c vs B t)(hn:0<=n/\n<=1000000)(hG:pI gTab D w)(hi:i<8){y:BS}{L:List Ap}(hcp:c i=jG (.sref (aP p) 0))(hcb:c (8+i)=Jo y)(hca:c 17=Lh L)(hL:L.length<=1000){vo vy:Value}(AF:RA D w (.row m [.ints .i64 (m*5) ops]) vo)(hm:m<=1000000)(hol:ops.length=m*5)(hdr: -9223372036854775808<=dr/\dr<=9223372036854775807)(hyf:y.f<=1000)
  (hwf:yZ y p.e:=by assumption)
  (bA7:(nn==1)=false:=by first|rfl|assumption)
  :
  Calls Tryz.prog 9 #[.pointer (some ⟨r,0,none⟩),.agg (AC 1 (i:Nat) nn fr vo dr vy)] w fun e w'=>e=.returned (.int .i64 (jZ p y L fr ops m nn dr).1)/\cn6 D w r 0 (n+1) (upd (upd c (8+i) (Jo (jZ p y L fr ops m nn dr).2.1)) 17 (Lh (jZ p y L fr ops m nn dr).2.2)) B t w':=by
 obtain⟨ps,bs,po,ap,h1,h2,h3,h4⟩:=Iy h.len
 have hb0:aM w r (WL n 0 ps bs po ap).toArray t:=by rw[<-h4];exact h.blk
 refine(Zg w r t n hn ps bs po ap i hi nn fr dr vo vy hb0 (fun v cs w2=>v=.int .i64 (jZ p y L fr ops m nn dr).1/\∃D' vs' B',cs=(vF (n+1) 1 vs').toArray/\WQ D' w2 r 1 (n+1) (upd (upd c (8+i) (Jo (jZ p y L fr ops m nn dr).2.1)) 17 (Lh (jZ p y L fr ops m nn dr).2.2)) vs' B' t/\gY D w r B D' w2 B') fun w1 hb1 hg1=>?_).mono ?_
 ·have hq1:WQ D w1 r 1 (n+1) c vs B t:=h.mu (by rw[h4];exact hb1) hg1
  have s1:gY D w r B D w1 B:=.own hg1 fun z hz=>(h.dat z hz).1
  refine(La hq1 (hG.up s1.k) hi hcp hcb hca hL (AF.up s1.k) hm hol hdr hyf).mono ?_
  rintro e w2 ⟨rfl,D',vs',B',k1,k2⟩
  exact⟨_,_,_,rfl,⟨rfl,D',vs',B',rfl,k1,s1.trans k2⟩,k1.blk,by rw[List.getElem?_toArray];rfl⟩
 ·rintro e w' ⟨v,cs,w2,t',rfl,⟨rfl,D',vs',B',rfl,k1,k2⟩,rfl,hb2⟩
  have hb3:aM (w2.setCell ⟨r,1,none⟩ (.int .i32 0)) r (vF (n+1) 0 vs').toArray t:=(k1.blk.set 1 _).copy Iw
  have hg3:w2.grownBy (w2.setCell ⟨r,1,none⟩ (.int .i32 0)) (some r):=ay (bH w2 _) 1 _
  exact⟨rfl,⟨D',vs',B',k1.mu hb3 hg3,k2.trans (.own hg3 fun z hz=>(k1.dat z hz).1)⟩⟩
end
section
open Pm
inductive TA where
 |one(a:A)
 |yE(l:List A)
 |any
def ZQ(D:Nat->Prop)(w:World):TA->Value->Prop
 | .one a,v=>RA D w a v
 | .yE l,v=>∃vs,v=.tuple vs.toArray/\mH D w l vs
 | .any,_=>True
theorem ZQ.up{D D':Nat->Prop}(k:Keeps D w D' w'):∀{t:TA} {v:Value},ZQ D w t v->ZQ D' w' t v
 | .one _,_,h=>RA.up k h
 | .yE _,_,⟨vs,h1,h2⟩=>⟨vs,h1,h2.up k⟩
 | .any,_,_=>trivial
def Jf(D:Nat->Prop)(B:Nat)(x:Option Nat)(z:Nat):Prop:=(D z\/B<=z)/\x≠some z
structure JX(D:Nat->Prop)(T:Nat->TA)(ty:TypeId)(sz:Nat)(l:List Seg)(ja js:Nat)(w3:World)(x:Option Nat)(S:Nat->Bool)(vals:Nat->Value)(w:World):Prop where
 iE:Below w3.heap.size w3 w
 no:S ja=false->x=none
 val:∀k,k≠ja->S k=true->ZQ (Jf D w3.heap.size x) w (T k) (vals k)
 blk:S ja=true->∃q zc,x=some q/\vals ja=.pointer (some ⟨q,0,none⟩)/\w3.heap.size<=q/\aM w q zc ty/\zc.size=sz/\(S js=true->RL (Jf D w3.heap.size x) w l zc.toList)
def JM(D:Nat->Prop)(T:Nat->TA)(ty:TypeId)(sz:Nat)(l:List Seg)(ja js:Nat)(w3:World)(S:Nat->Bool)(vals:Nat->Value)(w:World):Prop:=∃x,JX D T ty sz l ja js w3 x S vals w
section
variable {D : Nat -> Prop} {T : Nat -> TA} {ty : TypeId} {sz : Nat} {l : List Seg} {ja js : Nat} {w3 w w' : World} {x : Option Nat} {S : Nat -> Bool} {vals : Nat -> Value}
theorem JM.start(hS:∀k,S k=false):JM D T ty sz l ja js w S vals w:=⟨none,Below.refl _ _,fun _=>rfl,fun k _ hk=>(by rw[hS k]at hk;cases hk),fun h=>(by rw[hS ja]at h;cases h)⟩
theorem JX.there(h:JX D T ty sz l ja js w3 x S vals w)(e:x=some q):w3.heap.size<=q/\q<w.heap.size:=by
 cases hja:S ja with
 |false=>rw[h.no hja]at e;cases e
 |true=>
  obtain⟨q',zc,e1,_,e3,e4,_⟩:=h.blk hja
  rw[e1]at e;cases e
  exact⟨e3,e4.lt⟩
theorem JX.keeps(h:JX D T ty sz l ja js w3 x S vals w):Keeps D w3 (Jf D w3.heap.size x) w:=⟨h.iE.size,fun z hz hd=>⟨⟨.inl hd,fun e=>by have:=(h.there e).1;omega⟩,fun o=>World.cell?_of_block (h.iE.block z hz)⟩⟩
theorem JX.res(h:JX D T ty sz l ja js w3 x S vals w):Keeps (fun z=>Jf D w3.heap.size x z\/w.heap.size<=z) w' (Jf D w3.heap.size x) w':=⟨yLr _,fun z hz hd=>⟨hd.elim id fun e=>⟨.inr (yLt h.iE.size e),fun e1=>by have:=(h.there e1).2;omega⟩,fun _=>rfl⟩⟩
theorem JX.step(h:JX D T ty sz l ja js w3 x S vals w)(hb:Below w.heap.size w w')(na:ja≠j)(ns:js≠j)(hv:ZQ (Jf D w3.heap.size x) w' (T j) v):JM D T ty sz l ja js w3 (add1 S j) (fun k=>if k=j then v else vals k) w':=by
 have hs:=h.iE.size
 have kp:Keeps (Jf D w3.heap.size x) w (Jf D w3.heap.size x) w':=⟨hb.size,fun z hz hd=>⟨hd,fun o=>World.cell?_of_block (hb.block z hz)⟩⟩
 refine⟨x,h.iE.lift hb hs,fun hj=>h.no (by rwa [aA S na]at hj),fun k hk hks=>?_,fun hj=>?_⟩
 ·by_cases e1:k=j
  ·subst e1;rw[if_pos rfl];exact hv
  ·rw[aA S e1]at hks;rw[gG vals j v e1];exact(h.val k hk hks).up kp
 ·rw[aA S na]at hj
  rw[gG vals j v na,aA S ns]
  obtain⟨q,zc,e1,e2,e3,e4,e5,e6⟩:=h.blk hj
  exact⟨q,zc,e1,e2,e3,e4.below hb e4.lt,e5,fun hjs=>(e6 hjs).up kp⟩
theorem JX.pure(h:JX D T ty sz l ja js w3 x S vals w)(na:ja≠j)(ns:js≠j)(hv:ZQ (Jf D w3.heap.size x) w (T j) v):JM D T ty sz l ja js w3 (add1 S j) (fun k=>if k=j then v else vals k) w:=h.step (Below.refl _ _) na ns hv
theorem JX.alloc(h:JX D T ty sz l ja js w3 x S vals w)(hja:S ja=false)(hjs:S js=false)(hne:js≠ja){zc:Array Value}(hz:zc.size=sz):JM D T ty sz l ja js w3 (add1 S ja) (fun k=>if k=ja then .pointer (some ⟨w.heap.size,0,none⟩)else vals k) (w.alloc (.cells zc ty)):=by
 have hs:=h.iE.size
 obtain rfl:=h.no hja
 have kp:Keeps (Jf D w3.heap.size none) w (Jf D w3.heap.size (some w.heap.size)) (w.alloc (.cells zc ty)):=⟨by rw[size_alloc];omega,fun z hz hd=>⟨⟨hd.1,fun e=>by cases e;omega⟩,fun o=>World.cell?_of_block (Below.heap_alloc w _ z hz)⟩⟩
 refine⟨some w.heap.size,h.iE.alloc hs _,fun hj=>(by rw[jc]at hj;cases hj),fun k hk hks=>?_,fun _=>⟨w.heap.size,zc,rfl,if_pos rfl,hs,aM.newAt _ _ rfl,hz,fun h2=>?_⟩⟩
 ·rw[aA S hk]at hks;rw[gG vals ja _ hk];exact(h.val k hk hks).up kp
 ·rw[aA S hne,hjs]at h2;cases h2
theorem JX.store(h:JX D T ty sz l ja js w3 x S vals w)(hja:S ja=true)(hne:js≠ja)(hT:T js=.any)(hq:vals ja=.pointer (some ⟨q,0,none⟩))(hcs:cs.size=sz)(hv:RL (Jf D w3.heap.size x) w l cs.toList)(y:Value):JM D T ty sz l ja js w3 (add1 S js) (fun k=>if k=js then y else vals k) (w.setRow q cs):=by
 obtain⟨q',zc,e1,e2,e3,e4,e5,e6⟩:=h.blk hja
 rw[hq]at e2;cases e2
 have kp:Keeps (Jf D w3.heap.size x) w (Jf D w3.heap.size x) (w.setRow q cs):=⟨by rw[size_setRow];exact yLr _,fun z hz hd=>⟨hd,fun o=>World.cell?_of_block (setRow_other w q z cs fun e=>hd.2 (by rw[e1,e]))⟩⟩
 refine⟨x,⟨h.iE.os,h.iE.tape,h.iE.output,by rw[size_setRow];exact h.iE.size,fun z hz=>(setRow_other w q z cs (by omega)).trans (h.iE.block z hz)⟩,fun hj=>?_,fun k hk hks=>?_,fun _=>?_⟩
 ·rw[aA S hne.symm,hja]at hj;cases hj
 ·by_cases e:k=js
  ·subst e;rw[hT];trivial
  ·rw[aA S e]at hks;rw[gG vals js y e];exact(h.val k hk hks).up kp
 ·rw[gG vals js y hne.symm]
  exact⟨q,cs,e1,hq,e3,e4.setRow _,hcs,fun _=>hv.up kp⟩
end
end
section
open Pm
section
variable {G : Nat -> Option (List Seg)} {S : Nat -> Prop} {base : Nat} {w0 : W0 G} {s : St} {ρ : Nat -> Option Value} {a : Act} {w w' : World}
theorem Good.adopt(g:Good S base w0 s ρ a w){fr:Nat}(hfr:s.bk fr=none)(hlt:fr<s.h.length){ty:TypeId}(hb:Below w.heap.size w w')(hq:w.heap.size<=q)(hblk:aM w' q cs ty)(hl:RL (Jf (Dt S base ρ) w.heap.size (some q)) w' l cs.toList):
  Good S base w0 ⟨s.t,s.h.set fr (some (.var l))⟩ (upd ρ fr (some (.pointer (some ⟨q,0,none⟩)))) a w'/\Keeps (Jf (Dt S base ρ) w.heap.size (some q)) w' (Dt S base (upd ρ fr (some (.pointer (some ⟨q,0,none⟩))))) w':=by
 have hρ:ρ fr=none:=by have:=g.b fr;rw[hfr]at this;exact this
 have kp:Keeps (Jf (Dt S base ρ) w.heap.size (some q)) w' (Dt S base (upd ρ fr (some (.pointer (some ⟨q,0,none⟩))))) w':=⟨yLr _,fun z hz hd=>⟨⟨hd.1.elim (fun h=>h.1) fun h=>.inr (yLt g.size h),fun b u hu hr=>by
  unfold upd at hu
  split at hu
  ·cases hu
   simp[Rl]at hr
   exact hd.2 (by rw[hr])
  ·rcases hd.1 with h|h
   ·exact h.2 b u hu hr
   ·have:=(g.low b u z hu hr).2;omega⟩,fun _=>rfl⟩⟩
 refine⟨g.change fr hlt _ _ none ⟨hb.os,hb.tape,hb.output,hb.size,fun k hk _=>hb.block k hk⟩ (by simp) ?_ ?_ ?_ (fun q hq=>by rw[hρ]at hq;cases hq),kp⟩
 ·intro r hr
  simp[Rl]at hr;subst hr
  exact⟨.inl hq,hblk.lt⟩
 ·intro K
  exact⟨q,cs.toList,ty,by simp[upd],trivial,hblk,hl.up kp⟩
 ·intro _ i hi hm
  exact absurd hfr (g.ru i fr hm)
def TA.t:TA->T
 | .one a=>.d a
 | .yE l=>.yE l
 | .any=>.au
theorem ZQ.rt:∀{t:TA},ZQ D w t v->RT D ρ w t.t v
 | .one _,h=>h
 | .yE _,h=>h
 | .any,_=>trivial
theorem TA.refs(t:TA):t.t.refs=[]:=by cases t<;>rfl
theorem Good.cv0(g:Good S base w0 s ρ a w)(d:Nat){t:TA}(h:ZQ (Dt S base ρ) w t v):Good S base w0 ⟨s.t.set d t.t,s.h⟩ ρ (a.put (some d) v) w:=g.put d h.rt (fun b hb=>by rw[TA.refs]at hb;cases hb)
end
theorem jB{d t:Nat}:(a.put (some d) v).eval (.tmp t)=if d=t/\t<a.tmps.size then v else a.eval (.tmp t):=by
 simp only[Act.put,Act.eval,Array.getD_eq_getD_getElem?,Array.getElem?_setIfInBounds]
 by_cases h:d=t
 ·subst h
  by_cases h2:d<a.tmps.size
  ·simp[h2]
  ·simp[h2]
 ·simp[h]
theorem gL{t:Nat}:(a.put none v).eval (.tmp t)=a.eval (.tmp t):=rfl
theorem size_put{d:Option Nat}:(a.put d v).tmps.size=a.tmps.size:=by cases d<;>simp[Act.put]
end
section
open Pm
def zM(TT:Nat->TA)(ja fr:Nat):Nat->List Oper->List T->List T
 |_,[],t=>t
 |k,o::r,t=>zM TT ja fr (k+1) r (match o.dst with|some d=>t.set d (if k=ja then .ptr fr 0 else(TT k).t)|none=>t)
theorem Az{G:Nat->Option (List Seg)}{S:Nat->Prop}{base:Nat}{w0:W0 G}{ops:Array Oper}{TT:Nat->TA}{ja fr:Nat}{vals:Nat->Value}:∀(l:List Oper) (k:Nat) {s:St} {ρ:Nat->Option Value} {a:Act} {w:World} (hops:∀(i:Nat) (o:Oper),l[i]?=some o->ops[k+i]?=some o) (g:Good S base w0 s ρ a w)
  (hv:∀i,i<l.length->k+i≠ja->ZQ (Dt S base ρ) w (TT (k+i)) (vals (k+i))) (hp:RT (Dt S base ρ) ρ w (.ptr fr 0) (vals ja)) (hb:s.bk fr≠none),Good S base w0 ⟨zM TT ja fr k l s.t,s.h⟩ ρ (aG ops vals (List.range' k l.length) a) w
 |[],k,s,ρ,a,w,hops,g,hv,hp,hb=>g
 |o::r,k,s,ρ,a,w,hops,g,hv,hp,hb=>by
  have ho:ops[k]?=some o:=hops 0 o rfl
  rw[List.length_cons,List.range'_succ]
  unfold aG zM
  rw[ho]
  have ao4:∀(i:Nat) (o':Oper),r[i]?=some o'->ops[k+1+i]?=some o':=fun i o' h=>by rw[Nat.add_assoc,Nat.add_comm 1 i];exact hops (i+1) o' (by simpa using h)
  have hv':∀i,i<r.length->k+1+i≠ja->ZQ (Dt S base ρ) w (TT (k+1+i)) (vals (k+1+i)):=fun i hi hn=>by
   have:=hv (i+1) (by simpa using hi) (by omega)
   rwa [show k+(i+1)=k+1+i by omega]at this
  cases hd:o.dst with
  |none=>
   have e:(some o).bind (·.dst)=none:=hd
   rw[e]
   exact Az r (k+1) ao4 g hv' hp hb
  |some d=>
   have e:(some o).bind (·.dst)=some d:=hd
   rw[e]
   by_cases hk:k=ja
   ·subst hk
    simp only[if_true]
    exact Az r (k+1) ao4 (g.put d hp (fun b hm=>by simp[T.refs]at hm;rw[hm];exact hb)) hv' hp hb
   ·simp only[if_neg hk]
    exact Az r (k+1) ao4 (g.cv0 d (hv 0 (by simp) hk)) hv' hp hb
theorem GX.more{base:Nat}{w0:W0 E.G}{s:St}{c:Code}(n:Nat)(h:GX E S base w0 c ⟨s.t,s.h++List.replicate n none⟩ Q):GX E S base w0 c s Q:=⟨fun ρ a w g=>h.out ρ a w (g.sim (U2.more s n))⟩
theorem GX.drawn{base:Nat}{w0:W0 E.G}{s:St}{id:Nat}{ops:Array Oper}{y:Code}(TT:Nat->TA)(ty:TypeId)(sz:Nat)(l:List Seg)(ja js fr:Nat)(D:List (List Nat))(hs:Region.noSelect ops=true)(hok:VX ops.toList D=true)(hfr:s.bk fr=none)(hlt:fr<s.h.length)(hja:ja<ops.toList.length)(hjs:js<ops.toList.length)
  (Sq:∀(ρ:Nat->Option Value) (a:Act) (w:World),Good S base w0 s ρ a w->∃T2:Nat->TA,(∀k,TT k=.any\/TT k=T2 k)/\Cx E.P ops (JM (Dt S base ρ) T2 ty sz l ja js w.drew) D a 0 ops.toList)
  (h:GX E S base w0 y ⟨zM TT ja fr 0 ops.toList s.t,s.h.set fr (some (.var l))⟩ Q):GX E S base w0 (.seq (.region id ops true) y) s Q:=by
 obtain⟨lo,rfl⟩:∃lo:List Oper,ops=lo.toArray:=⟨ops.toList,by simp⟩
 simp only[List.toList_toArray]at*
 refine⟨fun ρ a w g=>wp_seq ?_⟩
 obtain⟨T2,hT,Sq⟩:=Sq ρ a w g
 refine ku (JM (Dt S base ρ) T2 ty sz l ja js w.drew) D E.hM hs hok (JM.start fun _=>rfl) Sq ?_
 rintro vals w' ⟨x,hJ⟩
 obtain⟨q,zc,rfl,e2,e3,e4,e5,e6⟩:=hJ.blk (decide_eq_true hja)
 obtain⟨g1,kp⟩:=g.adopt hfr hlt (j4 hJ.iE) e3 e4 (e6 (decide_eq_true hjs))
 have hbk:St.bk ⟨s.t,s.h.set fr (some (.var l))⟩ fr≠none:=by
  unfold St.bk
  rw[aB,if_pos ⟨rfl,hlt⟩];simp
 have g2:=Az (ops:=lo.toArray) (TT:=TT) (ja:=ja) (fr:=fr) (vals:=vals) lo 0 (fun i o ho=>by rw[Nat.zero_add,List.getElem?_toArray];exact ho) g1 (fun i hi hn=>by
  rcases hT (0+i)with e|e
  ·rw[e];trivial
  ·rw[e];exact(hJ.val (0+i) hn (decide_eq_true (by omega))).up kp) (fun u hu=>by
  unfold upd at hu
  rw[if_pos rfl]at hu
  cases hu
  exact⟨q,by simp[Root],e2⟩) hbk
 rw[List.range_eq_range']
 exact h.out _ _ _ g2
end
section
open Pm
attribute [local irreducible] aN aQ bq aJ aI eY dL bP aD aC aF bn aY aj bR fC fu bT dH jm eG jO bg aZ mI fq eX bJ aT dB jF aK eB dK kG fO bD fG dA bS bE okW wN wB ny ZC IE kW K7 bW vN vZ
def Rv(p:PS)(o:Nat)(ops:List Int)(m:Nat)(vz:List Int)(d:List UInt8)(l0:List Seg)(a1 a2:A)(er:Int):Nat->TA
 |0=>.one (.sref (aP p) 0)
 |2=>.one (.row o [.ints .i64 (o*5) ops])
 |4=>.one (.sref (aP p) 0)
 |6=>.one (.row o [.ints .i64 (o*5) ops])
 |7=>.one (.row m [.ints .i64 (m*3) vz])
 |8=>.one (.agg [.bytes 32 d])
 |9=>.yE [.agg l0,a1,a2,.v (.int .i64 er)]
 |10=>.yE [.agg l0,a1,a2,.v (.int .i64 er)]
 |11=>.one (.agg l0)
 |12=>.one a1
 |13=>.one a2
 |14=>.one (.v (.int .i64 er))
 |17=>.one a1
 |18=>.one a2
 |19=>.one (.v (.int .i64 er))
 |_=>.any
def Vf(r A0:Nat)(t:Nat->TA):Nat->TA
 |1=>.one (.v (.pointer (some ⟨A0,4,none⟩)))
 |3=>.one (.v (.pointer (some ⟨r,0,none⟩)))
 |5=>.one (.v (.pointer (some ⟨A0,4,none⟩)))
 |k=>t k
theorem af5{d:List UInt8}{l0:List Seg}{a1 a2:A}{r A0:Nat}(k:Nat):Rv p o ops m vz d l0 a1 a2 er k=.any\/Rv p o ops m vz d l0 a1 a2 er k=Vf r A0 (Rv p o ops m vz d l0 a1 a2 er) k:=by
 by_cases h1:k=1
 ·subst h1;exact .inl rfl
 by_cases h3:k=3
 ·subst h3;exact .inl rfl
 by_cases h5:k=5
 ·subst h5;exact .inl rfl
 right
 unfold Vf
 split<;>first|rfl|omega
theorem XO(dr:Int):(bF dr).length=32:=by unfold bF aD;exact bG _
noncomputable def BR:Array Oper:=match(Tryz.f29).body with|some (.seq _ (.seq _ (.seq _ (.seq _ (.seq (.region _ ops _) _)))))=>ops|_=>#[]
theorem RAv(h:ZQ D w (.one (.v x)) v):v=x:=by cases h;rfl
theorem RD{w1:World}{r A0 A6:Nat}{d:List UInt8}{l0:List Seg}{a1 a2:A}{va:Option Addr}{vn vc:Nat}(hsz:a.tmps.size=80)(hG:pI gTab D w1)(hlf:aL p.lf=true)(ho1:o<=3000)(hm8:m<=3000)
  (e0:a.eval (.tmp 0)=.pointer (some ⟨r,0,none⟩))(e3:a.eval (.tmp 3)=.pointer (some ⟨A0,0,none⟩))(hp:RA D w1 (.sref (aP p) 0) (a.eval (.tmp 5)))(e6:a.eval (.tmp 6)=.pointer (some ⟨A6,0,none⟩))
  (hA0:A0<w1.heap.size)(c4:w1.cell? ⟨A0,4,none⟩=some (.slice va vn vc))(AF:RA D w1 (.row o [.ints .i64 (o*5) ops]) (.slice va vn vc)){t6:TypeId}(h6:aM w1 A6 (HC d) t6)(hd:d.length=32)
  (ct5:∀(wj:World) (v4 v6:Value) (D':Nat->Prop),Below w1.heap.size w1 wj->RA D' wj (.sref (aP p) 0) v4->RA D' wj (.row o [.ints .i64 (o*5) ops]) v6->Calls Tryz.prog 54 #[.pointer (some ⟨r,0,none⟩),v4,v6] wj fun e w'=>∃v,e=.returned v/\RA (fun z=>wj.heap.size<=z) w' (.row m [.ints .i64 (m*3) vz]) v/\Below wj.heap.size wj w')
  (hR:af4 p o ops m vz d=[.agg l0,a1,a2,.v (.int .i64 er)])(hl0:dM l0=43):
  Cx Tryz.prog BR (JM D (Vf r A0 (Rv p o ops m vz d l0 a1 a2 er)) 116 43 l0 15 16 w1.drew) [[],[],[1],[],[],[],[5],[3,4,6],[],[0,2,7,8],[9],[10],[10],[10],[10],[],[15,11],[12],[13],[14]] a 0 BR.toList:=by
 simp only[BR,Tryz.f29]
 have kd:Keeps D w1 D w1.drew:=⟨yLr _,fun z _ h=>⟨h,fun o=>rfl⟩⟩
 have hp:=RA.up kd hp
 have AF:=RA.up kd AF
 have hG:=hG.up kd
 have f0:=e0
 have f3:=e3
 have f6:=e6
 simp[Act.eval,hsz]at f0 f3 f6
 refine⟨?_,?_,?_,?_,?_,?_,?_,?_,?_,?_,?_,?_,?_,?_,?_,?_,?_,?_,?_,?_,trivial⟩
 ·intro S vals wj hJ fK hD hcl
  obtain⟨x,hJ⟩:=hJ
  refine jX (v:=a.eval (.tmp 5)) rfl ?_ (hJ.pure (j:=0) (by decide) (by decide) (RA.up hJ.keeps hp))
  simp[execOp,aG,jB,gL,size_put,Instr.fieldAt,go_sem,hsz]
 ·intro S vals wj hJ fK hD hcl
  obtain⟨x,hJ⟩:=hJ
  refine jX (v:=.pointer (some ⟨A0,4,none⟩)) rfl ?_ (hJ.pure (j:=1) (by decide) (by decide) (RA.v _))
  simp[execOp,aG,jB,gL,size_put,Instr.fieldAt,go_sem,hsz,f3]
 ·intro S vals wj hJ fK hD hcl
  obtain⟨x,hJ⟩:=hJ
  have d1:=RAv (hJ.val 1 (by decide) (hD 1 (by simp)))
  have cc:wj.cell? ⟨A0,4,none⟩=some (.slice va vn vc):=(World.cell?_of_block (hJ.iE.block _ hA0)).trans c4
  refine jX (v:=.slice va vn vc) rfl ?_ (hJ.pure (j:=2) (by decide) (by decide) (RA.up hJ.keeps AF))
  simp[execOp,aG,jB,gL,size_put,Instr.fieldAt,go_sem,hsz,d1,cc]
 ·intro S vals wj hJ fK hD hcl
  obtain⟨x,hJ⟩:=hJ
  refine jX (v:=.pointer (some ⟨r,0,none⟩)) rfl ?_ (hJ.pure (j:=3) (by decide) (by decide) (RA.v _))
  simp[execOp,aG,jB,gL,size_put,Instr.fieldAt,go_sem,hsz,f0]
 ·intro S vals wj hJ fK hD hcl
  obtain⟨x,hJ⟩:=hJ
  refine jX (v:=a.eval (.tmp 5)) rfl ?_ (hJ.pure (j:=4) (by decide) (by decide) (RA.up hJ.keeps hp))
  simp[execOp,aG,jB,gL,size_put,Instr.fieldAt,go_sem,hsz]
 ·intro S vals wj hJ fK hD hcl
  obtain⟨x,hJ⟩:=hJ
  refine jX (v:=.pointer (some ⟨A0,4,none⟩)) rfl ?_ (hJ.pure (j:=5) (by decide) (by decide) (RA.v _))
  simp[execOp,aG,jB,gL,size_put,Instr.fieldAt,go_sem,hsz,f3]
 ·intro S vals wj hJ fK hD hcl
  obtain⟨x,hJ⟩:=hJ
  have d5:=RAv (hJ.val 5 (by decide) (hD 5 (by simp)))
  have cc:wj.cell? ⟨A0,4,none⟩=some (.slice va vn vc):=(World.cell?_of_block (hJ.iE.block _ hA0)).trans c4
  refine jX (v:=.slice va vn vc) rfl ?_ (hJ.pure (j:=6) (by decide) (by decide) (RA.up hJ.keeps AF))
  simp[execOp,aG,jB,gL,size_put,Instr.fieldAt,go_sem,hsz,d5,cc]
 ·intro S vals wj hJ fK hD hcl
  obtain⟨x,hJ⟩:=hJ
  have d3:=RAv (hJ.val 3 (by decide) (hD 3 (by simp)))
  refine opc (f:=54) (args:=#[.pointer (some ⟨r,0,none⟩),vals 4,vals 6]) rfl (by simp[execOp,aG,jB,gL,size_put,resolve,invoke,go_sem,hsz,d3]) ?_
  refine(ct5 wj (vals 4) (vals 6) (Jf D w1.heap.size x) (j4 hJ.iE) (hJ.val 4 (by decide) (hD 4 (by simp))) (hJ.val 6 (by decide) (hD 6 (by simp)))).mono ?_
  rintro e w' ⟨v,rfl,k1,k2⟩
  exact⟨_,rfl,hJ.step k2 (by decide) (by decide) (RA.up hJ.res (RA.up ⟨yLr _,fun z _ hz=>⟨.inr hz,fun _=>rfl⟩⟩ k1))⟩
 ·intro S vals wj hJ fK hD hcl
  obtain⟨x,hJ⟩:=hJ
  have hb:aM wj A6 (HC d) t6:=(hJ.iE.block _ h6.lt).trans h6
  have hrun:(loadVar 28 ⟨A6,0,none⟩).run Tryz.prog wj=.ok (.agg (HC d)) wj:=lN (Jc 28 _ rfl) rfl (cs:=HL d) (by rw[gX];exact hd) fun j hj=>by
   rw[hb.cell,Nat.zero_add,HC,List.getElem?_toArray]
   exact yGe hj
  exact jX rfl (gq rfl (by simp[aG];exact e6) hrun) (hJ.pure (j:=8) (by decide) (by decide) (aA2 hd))
 ·intro S vals wj hJ fK hD hcl
  obtain⟨x,hJ⟩:=hJ
  refine opc (f:=53) (args:=#[vals 0,vals 2,vals 7,vals 8]) rfl (by simp[execOp,aG,jB,gL,size_put,resolve,invoke,go_sem,hsz]) ?_
  refine(Jr p o ops ho1 m vz hm8 d hlf (Jf D w1.heap.size x) wj [vals 0,vals 2,vals 7,vals 8] (hG.up hJ.keeps) (.cons (hJ.val 0 (by decide) (hD 0 (by simp))) (.cons (hJ.val 2 (by decide) (hD 2 (by simp))) (.cons (hJ.val 7 (by decide) (hD 7 (by simp))) (.cons (hJ.val 8 (by decide) (hD 8 (by simp))) .nil))))).mono ?_
  rintro e w' ⟨v,rfl,⟨vs,rfl,k1⟩,k2⟩
  have k1:mH (fun z=>Jf D w1.heap.size x z\/wj.heap.size<=z) w' (af4 p o ops m vz d) vs:=k1
  rw[hR]at k1
  exact⟨_,rfl,hJ.step k2 (by decide) (by decide) ⟨vs,rfl,mH.up hJ.res k1⟩⟩
 ·intro S vals wj hJ fK hD hcl
  obtain⟨x,hJ⟩:=hJ
  refine jX (v:=vals 9) rfl ?_ (hJ.pure (j:=10) (by decide) (by decide) (hJ.val 9 (by decide) (hD 9 (by simp))))
  simp[execOp,aG,jB,gL,size_put,go_sem,hsz]
 ·intro S vals wj hJ fK hD hcl
  obtain⟨x,hJ⟩:=hJ
  obtain⟨ts,RO,k1⟩:=hJ.val 10 (by decide) (hD 10 (by simp))
  obtain⟨x0,x1,x2,x3,rfl,k2,k3,k4,k5⟩:=uX k1
  refine jX (v:=x0) rfl ?_ (hJ.pure (j:=11) (by decide) (by decide) k2)
  simp[execOp,aG,jB,gL,size_put,go_sem,hsz,RO]
 ·intro S vals wj hJ fK hD hcl
  obtain⟨x,hJ⟩:=hJ
  obtain⟨ts,RO,k1⟩:=hJ.val 10 (by decide) (hD 10 (by simp))
  obtain⟨x0,x1,x2,x3,rfl,k2,k3,k4,k5⟩:=uX k1
  refine jX (v:=x1) rfl ?_ (hJ.pure (j:=12) (by decide) (by decide) k3)
  simp[execOp,aG,jB,gL,size_put,go_sem,hsz,RO]
 ·intro S vals wj hJ fK hD hcl
  obtain⟨x,hJ⟩:=hJ
  obtain⟨ts,RO,k1⟩:=hJ.val 10 (by decide) (hD 10 (by simp))
  obtain⟨x0,x1,x2,x3,rfl,k2,k3,k4,k5⟩:=uX k1
  refine jX (v:=x2) rfl ?_ (hJ.pure (j:=13) (by decide) (by decide) k4)
  simp[execOp,aG,jB,gL,size_put,go_sem,hsz,RO]
 ·intro S vals wj hJ fK hD hcl
  obtain⟨x,hJ⟩:=hJ
  obtain⟨ts,RO,k1⟩:=hJ.val 10 (by decide) (hD 10 (by simp))
  obtain⟨x0,x1,x2,x3,rfl,k2,k3,k4,k5⟩:=uX k1
  refine jX (v:=x3) rfl ?_ (hJ.pure (j:=14) (by decide) (by decide) k5)
  simp[execOp,aG,jB,gL,size_put,go_sem,hsz,RO]
 ·intro S vals wj hJ fK hD hcl
  obtain⟨x,hJ⟩:=hJ
  have h16:S 16=false:=by cases h:S 16 with|false=>rfl|true=>have:=hcl 16 h 15 (by simp);rw[fK]at this;cases this
  refine jX rfl ?_ (hJ.alloc fK h16 (by decide) (zc:=#[.int .i64 0,.int .i64 0,.slice none 0 0,.slice none 0 0,.int .i64 0,.int .i64 0,.int .i64 0,.int .i64 0,.slice none 0 0]++Array.replicate 32 (.int .u8 0)++#[.int .i64 0,.int .i64 0]) (by simp))
  simp[execOp,aG,go_sem]
  rfl
 ·intro S vals wj hJ fK hD hcl
  obtain⟨x,hJ⟩:=hJ
  obtain⟨qq,zc,k1,k2,k3,k4,k5,_⟩:=hJ.blk (hD 15 (by simp))
  have k11:=hJ.val 11 (by decide) (hD 11 (by simp))
  obtain⟨cv,d11,k12⟩:=Mx k11
  have hcv:cv.size=43:=by have:=k12.len;rw[hl0]at this;simpa using this
  refine ay0 rfl ?_ (hJ.store (hD 15 (by simp)) (by decide) rfl k2 hcv k12 undef)
  exact wL 116 _ _ rfl qq cv (by simp[aG,jB,gL,size_put,hsz,k2]) (by simp[aG,jB,gL,size_put,hsz,d11]) 116 zc k4 (by rw[hcv];kernel_rfl) (k5.trans hcv.symm) (K8 k12.one)
 ·intro S vals wj hJ fK hD hcl
  obtain⟨x,hJ⟩:=hJ
  refine jX (v:=vals 12) rfl ?_ (hJ.pure (j:=17) (by decide) (by decide) (hJ.val 12 (by decide) (hD 12 (by simp))))
  simp[execOp,aG,jB,gL,size_put,go_sem,hsz]
 ·intro S vals wj hJ fK hD hcl
  obtain⟨x,hJ⟩:=hJ
  refine jX (v:=vals 13) rfl ?_ (hJ.pure (j:=18) (by decide) (by decide) (hJ.val 13 (by decide) (hD 13 (by simp))))
  simp[execOp,aG,jB,gL,size_put,go_sem,hsz]
 ·intro S vals wj hJ fK hD hcl
  obtain⟨x,hJ⟩:=hJ
  refine jX (v:=vals 14) rfl ?_ (hJ.pure (j:=19) (by decide) (by decide) (hJ.val 14 (by decide) (hD 14 (by simp))))
  simp[execOp,aG,jB,gL,size_put,go_sem,hsz]
end
section
open Pm
attribute [local irreducible] aN aQ bq aJ aI eY dL bP aD aC aF bn aY aj bR fC fu bT dH jm eG jO bg aZ mI fq eX bJ aT dB jF aK eB dK kG fO bD fG dA bS bE okW wN wB ny ZC IE kW K7 bW vN vZ
theorem I8{l:List A}{i k:Nat}{po v17:Value}{L:List Ap}{y:A}{cs:List Value}{s:Vw}{c:CS}{q:PS}{N:Nat}
  (hr:r<w.heap.size)(hG:pI gTab (fun z=>S z/\z≠r) w)(hB:HB (fun z=>S z/\z≠r) w r (.var (uf n 1 l (.v po) (.v v17))))(hi:i<8)(hl:l.getD i (.v undef)=.sref (aP p) 0)(hlf:aL p.lf=true)
  (hown:w.ownsRow 0 35 1 po k cs)(hk:k+1+N<=60)(hpo:(po=.slice none 0 0/\k=0)\/∃ad cp,po=.slice (some ad) k cp)(hfr:∀z,po.ownBlock=some z->z<w.heap.size/\z≠r/\¬S z)
  (hL:L.length<=1000000)(Yc:w.ownsRow 0 112 35 v17 L.length (pQ L))(aR0:∀x∈L,x.p.length=32)(Sg:∀z,v17.ownBlock=some z->z≠r)(ho:o≠0)(ho1:o<=3000)(hP:P=bW p.e p.zs p.ad p.k p.ch p.lf ops)(hmv:m=vN L P 8)(QS:vz=vZ L P 8)
  (hE:eX p o ops m vz=0)(hs:s=fq p p.lf o ops)(hc:c=bJ p s o ops m vz (bF dr))(hq:q=aT p s o ops m vz (bF dr))(hm:dA c=true)(hw:N=fO s.ng 8)(hW:W=kG (dK q (jF (aK (bF dr))) (dB p (bF dr)) (eB q.ep) (bF dr)) s.ng 8)(hok:K7 N W)(h1:c.n<=3000)(h2:c.m<=3000)(h3:c.k<=3000)(h4:∀j,j<c.k->(c.bx j).length<=6000)
  (hR:∀w2 v' ns T,T=ny c W N->HB (fun z=>(S z\/w.heap.size<=z)/\z≠r/\v'.ownBlock≠some z) w2 r (.var (uf n 1 (l.set i (.sref (aP q) 0)) (.v v') (.v v17)))->w2.ownsRow 0 35 1 v' (k+(N+1)) (cs++ns)->
   RL (fun z=>(S z\/w.heap.size<=z)/\z≠r/\v'.ownBlock≠some z) w2 [.gen (N+1) T] ns->bX (fun z=>z=r\/po.ownBlock=some z) w w2->(∀z,v'.ownBlock=some z->z<w2.heap.size/\(po.ownBlock=some z\/w.heap.size<=z))->R (.returned (.int .i64 0)) w2)
  (ha:mH (fun z=>S z/\z≠r) w [.agg [.ints .i64 4 [2,(i:Nat),nn,fr],.gen 1 [.row o [.ints .i64 (o*5) ops]],.ints .i64 1 [dr],.gen 1 [y]]] vs):
  Calls Tryz.prog 29 (vs.insertIdx 0 (.pointer (some ⟨r,0,none⟩))).toArray w R:=by
 have HR:=yHd hR
 clear hR
 refine Fb (E:=ai9) (n:=80) Tryz.func29 Tryz.ntmps29 rfl (by exact Nat.le_of_ble_eq_true rfl) (by exact Nat.zero_le _) (by intro _ _ _ _ h;cases h) nm hr hG hB ha ?_
 unfold uf
 obtain⟨Q,hQ⟩:∃Q:Exit->Act->World->Prop,Q=(fun e a' w'=>(e=.normal\/e=.ret)/\a'.defers=[]/\∃v,(results Tryz.f29 a'.tmps).run ai9.P w'=.ok v w'/\R (.returned v) w'):=⟨_,rfl⟩
 rw[<-hQ]
 have HQ:=yHd hQ
 clear hQ
 (refine wO ?_)
 (refine GX.nT fun y1 hy=>?_);(have HY:=yHd hy);clear hy
 refine ah ?_;(try exact⟨⟩)
 (rw[HY.out];clear HY;(refine wO ?_))
 (refine GX.nT fun y1 hy=>?_);(have HY:=yHd hy);clear hy
 refine ah ?_;(try exact⟨⟩)
 (rw[HY.out];clear HY;(refine wO ?_))
 rw[hl]
 (refine GX.nT fun y1 hy=>?_);(have HY:=yHd hy);clear hy
 refine ah ?_;(try exact⟨⟩)
 (rw[HY.out];clear HY;(refine wO ?_))
 (refine GX.nT fun y1 hy=>?_);(have HY:=yHd hy);clear hy
 refine ah ?_
 intro d hd
 obtain rfl:d=bF dr:=hd
 refine ah ?_;(try exact⟨⟩)
 (rw[HY.out];clear HY;(refine wO ?_))
 refine GX.more 4 ?_
 (refine wO ?_)
 refine GX.drawn (Rv p o ops m vz (bF dr) (nN c) (.recs N 108 W) (.sref (aP q) 0) 0) 116 43 (nN c) 15 16 3 [[],[],[1],[],[],[],[5],[3,4,6],[],[0,2,7,8],[9],[10],[10],[10],[10],[],[15,11],[12],[13],[14]] (by kernel_rfl) (by kernel_rfl) rfl (Nat.le_of_ble_eq_true rfl) (Nat.le_of_ble_eq_true rfl) (Nat.le_of_ble_eq_true rfl) ?_ ?_
 ·intro ρ a w1 g
  have hlen:a.tmps.size=80:=g.len.symm
  obtain⟨A0,ca,ta,ra,_,ba,la⟩:=g.var (b:=1) rfl
  obtain⟨A6,c6,t6,r6,_,b6,l6⟩:=g.var (b:=2) rfl
  have r0:=g.pin r rfl
  have x0:=g.t 0 (by omega) _ r0
  have x3:=g.t 3 (by omega) _ ra
  have x5:=g.t 5 (by omega)
  have x6:=g.t 6 (by omega) _ r6
  obtain⟨ca1,ca2,eca,lca,lcb,_⟩:=la.head
  obtain⟨cb1,cb2,ecb,lcc,lcd,_⟩:=lcb.head
  obtain⟨_,co5⟩:=lca.fB
  obtain⟨gc,qc⟩:=lcc.gB
  cases qc with
  |cons AF h1v h2v=>
   cases h2v
   obtain⟨va,vn,vc,rfl⟩:=qg AF
   have c4:w1.cell? ⟨A0,4,none⟩=some (.slice va vn vc):=by
    have hb:aM w1 A0 ca.toArray ta:=ba
    rw[hb.cell,List.getElem?_toArray,eca,ecb,co5];rfl
   have hc6:c6=HL (bF dr):=by
    obtain⟨d1,d2,ed,ld,le,_⟩:=l6.head
    obtain⟨_,rfl⟩:=ld.iZ
    cases le.qb
    rw[ed,List.append_nil]
   have hd32:(bF dr).length=32:=XO dr
   have h6:aM w1 A6 (HC (bF dr)) t6:=by have:=b6;rw[hc6]at this;exact this
   obtain⟨r0',c0,t0,q0,_,b0,l0⟩:=g.var (b:=0) rfl
   have hG1:pI gTab (Dt S w.heap.size ρ) w1:=g.glob
   have hbel:∀z,z<w.heap.size->z≠r->w1.heap[z]?=w.heap[z]?:=fun z hz hn=>g.iE.block z hz hn
   have hws:w.heap.size<=w1.heap.size:=g.iE.size
   rw[r0]at q0
   obtain rfl:r0'=r:=by simpa using q0.symm
   have hx5:RA (Dt S w.heap.size ρ) w1 (.sref (aP p) 0) (a.eval (.tmp 5)):=x5
   have y0:a.eval (.tmp 0)=.pointer (some ⟨r0',0,none⟩):=by obtain⟨z,h1,h2⟩:=x0;cases h1.ptr;exact h2
   have y3:a.eval (.tmp 3)=.pointer (some ⟨A0,0,none⟩):=by obtain⟨z,h1,h2⟩:=x3;cases h1.ptr;exact h2
   have y6:a.eval (.tmp 6)=.pointer (some ⟨A6,0,none⟩):=by obtain⟨z,h1,h2⟩:=x6;cases h1.ptr;exact h2
   have hm8:m<=3000:=by have:=Qs L P 8;rw[<-hmv]at this;omega
   clear x0 x3 x5 x6 g ra r6 r0 q0 HQ HR Q
   refine⟨Vf r0' A0 (Rv p o ops m vz (bF dr) (nN c) (.recs N 108 W) (.sref (aP q) 0) 0),af5,?_⟩
   refine RD hlen hG1 hlf ho1 hm8 y0 y3 hx5 y6 (yAe.1 ba).1 c4 AF h6 hd32 ?_ ?_ (show dM (nN c)=43 from rfl)
   ·intro wj v4 v6 D' hbj h4' h6'
    have hvv:RA (fun _=>True) wj (.recs L.length 35 (apF L)) v17:=be5 (Bd Yc fun z hz=>(hbj.block z (yLl (wY Yc hz) hws)).trans (hbel z (wY Yc hz) (Sg z hz))) aR0
    have l1:RL (fun _=>True) wj [.ints .i64 1 [n],.ints .i32 1 [1],.ints .u32 1 [0],.gen 16 l,.gen 2 [.v po,.v v17]] c0:=l0.up ⟨hbj.size,fun z hz _=>⟨trivial,fun o=>World.cell?_of_block (hbj.block z hz)⟩⟩
    have h3':RL (fun _=>True) wj [.ints .i64 1 [n],.ints .i32 1 [1],.ints .u32 1 [0],.gen 16 l,.gen 2 [.v po,.recs L.length 35 (apF L)]] c0:=by
     obtain⟨c1,d1,e1,k1,r1,_⟩:=l1.head
     obtain⟨c2,d2,e2,k2,r2,_⟩:=r1.head
     obtain⟨c3,d3,e3,k3,r3,_⟩:=r2.head
     obtain⟨c4,d4,e4,k4,r4,l4⟩:=r3.head
     obtain⟨g5,q5⟩:=r4.gB
     rw[e1,e2,e3,e4]
     refine k1.append (k2.append (k3.append (k4.append ?_)))
     cases q5 with
     |cons a1 a2 a3=>
      cases a3 with
      |cons b1 b2 b3=>
       cases b3
       cases b1
       have:=RL.gen (.cons a1 a2 (.cons hvv b2 .nil)) g5 (.nil (S:=fun _=>True) (w:=wj))
       rwa [List.append_nil]at this
    have hbr:aM wj r0' c0.toArray t0:=(hbj.block _ (yAe.1 b0).1).trans b0
    have hsr:RA (fun _=>True) wj (.sref [.ints .i64 1 [n],.ints .i32 1 [1],.ints .u32 1 [0],.gen 16 l,.gen 2 [.v po,.recs L.length 35 (apF L)]] 0) (.pointer (some ⟨r0',0,none⟩)):=.sref (off:=0) h3' (.inr ⟨r0',0,rfl,trivial,(yAe.1 hbr).1,fun i hi=>by
     rw[Nat.zero_add,fU hbr,yGe hi]⟩)
    have kt:Keeps D' wj (fun _=>True) wj:=⟨yLr _,fun z _ _=>⟨trivial,fun _=>rfl⟩⟩
    have hf:=al4 (aH5 n 1 l (.v po) L p o ops hL ho (by omega) P hP)
    rw[<-hmv,<-QS]at hf
    refine(hf (fun _=>True) wj [.pointer (some ⟨r0',0,none⟩),v4,v6] (aQ1 (hG1.up ⟨hbj.size,fun z hz hd=>⟨hd,fun o=>World.cell?_of_block (hbj.block z hz)⟩⟩)) (.cons hsr (.cons (h4'.up kt) (.cons (h6'.up kt) .nil)))).mono ?_
    rintro e w' ⟨v,rfl,k1,k2⟩
    exact⟨v,rfl,RA.up ⟨yLr _,fun z _ hz=>⟨hz.elim False.elim id,fun _=>rfl⟩⟩ k1,k2⟩
   ·unfold af4
    rw[if_pos hE,<-hs,<-hc,<-hq,<-hw,<-hW]
 ·(conv=>arg 6;simp only[zM,Rv,TA.t,if_neg,if_pos,Nat.zero_add,Nat.reduceAdd,Nat.reduceEqDiff,reduceIte,dz_0,RU,Seg.n,wn1,wn2,wn3,wn4,wn5,wn6,wn7,wn8,wn9,UG,UH,UJ,UK,UL,UM,UN,Int.reduceAdd,Int.zero_add,Seg.cell,Seg.sub,List.set_nil,jS,rZ,List.take_append_drop,St.app,St.qW,St.ev,List.getD_cons_zero,List.getD_cons_succ,List.getD_nil,St.sl,St.bk,mF,kD,pG,iX,bU,weaken,qF,List.set_cons_zero,List.set_cons_succ,List.length_cons,List.length_nil,List.cons_append,List.nil_append,List.append_nil,List.map_cons,List.map_nil,List.replicate_succ,List.replicate_zero,List.take_succ_cons,List.take_zero,List.drop_succ_cons,List.drop_zero,List.take_nil,List.drop_nil,Nat.reduceAdd,Nat.reduceSub,Nat.reduceMul,Nat.reduceEqDiff,Nat.reduceLT,Nat.reduceLeDiff,Nat.zero_add,Nat.add_zero,Nat.sub_self,Nat.sub_zero,Nat.one_mul,Nat.mul_one,Nat.zero_mul,kT,qH,List.flatten_cons,List.flatten_nil,eq_self,ite_true,if_true,if_false,↓reduceIte,reduceCtorEq,Int.reduceToNat])
  have hN1:N<=1000:=by omega
  have hk1:¬(60:Int)<(k:Int)+1+(N:Int):=by omega
  clear hs hc hq hw hW hE hP hmv QS Yc aR0 Sg hL
  (refine wO ?_)
  (refine GX.nT fun y1 hy=>?_);(have HY:=yHd hy);clear hy
  refine ah ?_;(try exact⟨⟩)
  (rw[HY.out];clear HY;(refine wO ?_))
  rcases hpo with⟨rfl,rfl⟩|⟨ad,cp,rfl⟩
  ·(refine GX.nT fun y1 hy=>?_);(have HY:=yHd hy);clear hy
   refine ah ?_;(try exact⟨⟩)
   (rw[HY.out];clear HY;(refine wO ?_))
   (refine GX.nT fun y1 hy=>?_);(have HY:=yHd hy);clear hy
   refine ah ?_
   intro M T hM hT
   obtain rfl:M=N+1:=hM
   have hT':T=ny c W N:=hT
   clear hT
   have HT:=yHd hT'
   clear hT'
   refine ah ?_;(try exact⟨⟩)
   (rw[HY.out];clear HY;(refine wO ?_))
   (refine GX.nT fun y1 hy=>?_);(have HY:=yHd hy);clear hy
   refine ah ?_;(try exact⟨⟩)
   (rw[HY.out];clear HY;(refine wO ?_))
   refine GX.region (BJ.I4 6 ?_)
   refine ah ?_;(try exact⟨⟩)
   (refine gxm ?_)
   refine BJ.append (t:=50) (x:=.tmp 68) (y:=.tmp 69) (po:=.slice none 0 0) (m:=N+1) (n:=0) rfl rfl rfl rfl rfl rfl rfl (by decide) rfl (by decide) rfl rfl rfl ?_ (Nat.succ_ne_zero _) ?_ (EK rfl) hown (fun z hz=>⟨(hfr z hz).1,(hfr z hz).1,(hfr z hz).2.1,(hfr z hz).2.2⟩) ?_
   ·show dM [.gen (N+1) T]=(N+1)*1
    simp[dM,Seg.n]
   ·show(0+(N+1))*24<=_
    omega
   intro S' w0' v' w1 ns f1 f2 f3 f4 f5 f6 f7 f8 f9 f10 f11 f12 f13 f14
   rw[Nat.zero_add]at f7
   obtain⟨ad',cp',rfl⟩:=ownsRow_form f7
   have F1:=yHd f1;have F2:=yHd f2;have F3:=yHd f3;have F4:=yHd f4;have F5:=yHd f5;have F6:=yHd f6;have F7:=yHd f7;have F8:=yHd f8;have F9:=yHd f9;have F10:=yHd f10;have F11:=yHd f11;have F12:=yHd f12;have F13:=yHd f13;have F14:=yHd f14
   clear f1 f2 f3 f4 f5 f6 f7 f8 f9 f10 f11 f12 f13 f14
   (refine gxm ?_)
   refine BJ.last ?_
   refine ah ?_;(try exact⟨⟩)
   (refine wO ?_)
   (refine GX.nT fun y1 hy=>?_);(have HY:=yHd hy);clear hy
   refine ah ?_;(try exact⟨⟩)
   (rw[HY.out];clear HY;(refine wO ?_))
   refine GX.of ?_
   refine ah ?_
   rw[HQ.out]
   refine GQ.fin (tm:=4) (x:=.int .i64 0) (po:=.slice none 0 0) rfl rfl rfl (.inr rfl) hr F1.out F2.out F3.out F4.out F5.out F6.out F7.out F8.out F9.out F10.out F11.out F12.out F13.out ?_
   intro w2 g1 g2 g3 g4 g5
   exact HR.out w2 _ ns T HT.out g1 (by rw[Nat.zero_add];exact g2) g3 g4 g5
  ·(refine GX.nT fun y1 hy=>?_);(have HY:=yHd hy);clear hy
   refine ah ?_;(try exact⟨⟩)
   (rw[HY.out];clear HY;(refine wO ?_))
   (refine GX.nT fun y1 hy=>?_);(have HY:=yHd hy);clear hy
   refine ah ?_
   intro M T hM hT
   obtain rfl:M=N+1:=hM
   have hT':T=ny c W N:=hT
   clear hT
   have HT:=yHd hT'
   clear hT'
   refine ah ?_;(try exact⟨⟩)
   (rw[HY.out];clear HY;(refine wO ?_))
   (refine GX.nT fun y1 hy=>?_);(have HY:=yHd hy);clear hy
   refine ah ?_;(try exact⟨⟩)
   (rw[HY.out];clear HY;(refine wO ?_))
   refine GX.region (BJ.I4 6 ?_)
   refine ah ?_;(try exact⟨⟩)
   (refine gxm ?_)
   refine BJ.append (t:=50) (x:=.tmp 68) (y:=.tmp 69) (po:=.slice (some ad) k cp) (m:=N+1) (n:=k) rfl rfl rfl rfl rfl rfl rfl (by decide) rfl (by decide) rfl rfl rfl ?_ (Nat.succ_ne_zero _) ?_ (EK rfl) hown (fun z hz=>⟨(hfr z hz).1,(hfr z hz).1,(hfr z hz).2.1,(hfr z hz).2.2⟩) ?_
   ·show dM [.gen (N+1) T]=(N+1)*1
    simp[dM,Seg.n]
   ·show(k+(N+1))*24<=_
    omega
   intro S' w0' v' w1 ns f1 f2 f3 f4 f5 f6 f7 f8 f9 f10 f11 f12 f13 f14
   obtain⟨ad',cp',rfl⟩:=ownsRow_form f7
   have F1:=yHd f1;have F2:=yHd f2;have F3:=yHd f3;have F4:=yHd f4;have F5:=yHd f5;have F6:=yHd f6;have F7:=yHd f7;have F8:=yHd f8;have F9:=yHd f9;have F10:=yHd f10;have F11:=yHd f11;have F12:=yHd f12;have F13:=yHd f13;have F14:=yHd f14
   clear f1 f2 f3 f4 f5 f6 f7 f8 f9 f10 f11 f12 f13 f14
   (refine gxm ?_)
   refine BJ.last ?_
   refine ah ?_;(try exact⟨⟩)
   (refine wO ?_)
   (refine GX.nT fun y1 hy=>?_);(have HY:=yHd hy);clear hy
   refine ah ?_;(try exact⟨⟩)
   (rw[HY.out];clear HY;(refine wO ?_))
   refine GX.of ?_
   refine ah ?_
   rw[HQ.out]
   refine GQ.fin (tm:=4) (x:=.int .i64 0) (po:=.slice (some ad) k cp) rfl rfl rfl (.inr rfl) hr F1.out F2.out F3.out F4.out F5.out F6.out F7.out F8.out F9.out F10.out F11.out F12.out F13.out ?_
   intro w2 g1 g2 g3 g4 g5
   exact HR.out w2 _ ns T HT.out g1 g2 g3 g4 g5
end
section
open Pm
attribute [local irreducible] aN aQ bq aJ aI eY dL bP aD aC aF bn aY aj bR fC fu bT dH jm eG jO bg aZ mI fq eX bJ aT dB jF aK eB dK kG fO bD fG dA bS bE okW wN wB ny ZC IE kW K7 bW vN vZ
theorem GQ.one{s:St}{r tm:Nat}{fn:Func}{l':List Seg}{ex:Exit}(hfn:fn.results=[ResultVar.tmp tm].toArray)(hx:s.sl tm=.d (.v x))(hb:s.bk 0=some (.var l'))(he:ex=.normal\/ex=.ret)
  (hR:∀w2,HB (fun z=>(S z\/w.heap.size<=z)/\z≠r) w2 r (.var l')->w.grownBy w2 (some r)->R (.returned x) w2):
  GQ E S w.heap.size (⟨w,fun q=>q=r,some r,[]⟩:W0 E.G) s (fun a' w'=>(ex=.normal\/ex=.ret)/\a'.defers=[]/\∃v,(results fn a'.tmps).run E.P w'=.ok v w'/\R (.returned v) w'):=by
 refine⟨fun ρ a w2 g=>⟨he,g.defs,x,?_,?_⟩⟩
 ·have h1:=g.ev (.tmp tm)
  rw[show s.ev (.tmp tm)=.d (.v x)from hx]at h1
  have h2:a.tmps.getD tm undef=x:=RA.plain h1
  rw[<-h2]
  exact gP hfn rfl
 ·have yB:=g.pin r rfl
  have hB:=g.b 0
  rw[hb]at hB
  obtain⟨r',cs',t,h1,_,h2,h3⟩:=hB
  rw[yB]at h1;cases h1
  exact hR w2 ⟨cs',t,h2,h3.up ⟨yLr _,fun z _ hz=>⟨⟨hz.1,fun e=>hz.2 0 _ yB (by rw[e];rfl)⟩,fun _=>rfl⟩⟩⟩ ⟨g.iE.os,g.iE.tape,g.iE.output,g.iE.size,fun z hz hn=>g.iE.block z hz fun e=>hn (by rw[e])⟩
end
section
open Pm
theorem Bz{n mu:Int}{l:List A}{po ap:A}(h:HB D w r (.var (uf n mu l po ap))):∃ls v1 v2 t,ls.length=16/\aM w r (vF n mu (ls++[v1,v2])).toArray t/\RG D w l ls/\RA D w po v1/\RA D w ap v2:=by
 obtain⟨cs,t,h1,h2⟩:=h
 unfold uf at h2
 obtain⟨c1,d1,e1,k1,r1,_⟩:=h2.head
 obtain⟨c2,d2,e2,k2,r2,_⟩:=r1.head
 obtain⟨c3,d3,e3,k3,r3,_⟩:=r2.head
 obtain⟨c4,d4,e4,k4,r4,l4⟩:=r3.head
 obtain⟨_,rfl⟩:=k1.fB
 obtain⟨_,rfl⟩:=k2.fB
 obtain⟨_,rfl⟩:=k3.fB
 obtain⟨g4,q4⟩:=k4.gB
 obtain⟨g5,q5⟩:=r4.gB
 have bB8:c4.length=16:=q4.two.symm.trans g4
 cases q5 with
 |cons a1 a2 a3=>
  cases a3 with
  |cons b1 b2 b3=>
   cases b3
   refine⟨c4,_,_,t,bB8,?_,q4,a1,b1⟩
   rw[e1,e2,e3,e4]at h1
   exact h1
theorem qP{D:Nat->Prop}{w:World}{a:A}:∀{ps ls:List Value} {i:Nat},RG D w ((ps.map A.v).set i a) ls->i<ps.length->∃u,ls=ps.set i u/\RA D w a u/\u.oneCell'=true
 |[],_,_,_,h=>absurd h (by simp)
 |x::ps,ls,0,h,_=>by
  rw[List.map_cons,List.set_cons_zero]at h
  cases h with
  |cons a1 a2 a3=>
   refine⟨_,?_,a1,a2⟩
   rw[List.set_cons_zero,bF0 a3]
 |x::ps,ls,i+1,h,hi=>by
  rw[List.map_cons,List.set_cons_succ]at h
  cases h with
  |cons a1 a2 a3=>
   obtain⟨u,h1,h2,h3⟩:=qP a3 (by simpa using hi)
   cases a1
   exact⟨u,by rw[List.set_cons_succ,h1],h2,h3⟩
where
 bF0 {ps ls : List Value} (h : RG D w (ps.map A.v) ls) : ls = ps := by
  induction ps generalizing ls with
  | nil => cases h; rfl
  | cons x ps ih =>
   rw [List.map_cons] at h
   cases h with
   | cons a1 a2 a3 => cases a1; rw [ih a3]
theorem WQ.ones{mu n:Int}{c:Nat->Cm}{t:TypeId}(h:WQ D w r mu n c vs B t):∀y∈vs,y.oneCell'=true:=fun y hy=>by
 obtain⟨i,hi,e⟩:=List.getElem_of_mem hy
 have h1:=(c i).one (h.at' i (by rw[<-h.len];exact hi))
 rw[yGd,yGe hi]at h1
 rw[<-e];exact h1
theorem WQ.hb{mu n:Int}{c:Nat->Cm}{v1 v2:Value}{t:TypeId}(h:WQ D w r mu n c (ps++[v1,v2]) B t)(hi:i<8){a:A}(hc:c i=jG a):
  HB (fun z=>D z/\z≠r) w r (.var (uf n mu ((ps.map A.v).set i a) (.v v1) (.v v2))):=by
 have h16:ps.length=16:=by have:=h.len;simpa using this
 have hone:=h.ones
 have hk:Keeps D w (fun z=>D z/\z≠r) w:=⟨yLr _,fun z _ hd=>⟨⟨hd,(h.dat z hd).1⟩,fun _=>rfl⟩⟩
 have hpa:=(h.RQ (j:=i) (by omega) hc).up hk
 have hg:(ps++[v1,v2]).getD i undef=ps.getD i undef:=by rw[yGd,List.getElem?_append_left (by omega),<-yGd]
 rw[hg]at hpa
 have ho:(ps.getD i undef).oneCell'=true:=by
  rw[<-hg];exact(c i).one (h.at' i (by omega))
 have hs:ps.set i (ps.getD i undef)=ps:=by
  rw[yGd,yGe (by omega)];simp
 have hr:RG (fun z=>D z/\z≠r) w ((ps.map A.v).set i a) ps:=by
  have:=(T9 (S:=fun z=>D z/\z≠r) (w:=w) (ps:=ps) fun x hx=>hone x (List.mem_append_left _ hx)).set i hpa ho
  rwa [hs]at this
 have h3:=RL.append (.fI (k:=.i64) (n:=1) (zs:=[n]) rfl rfl) (RL.append (.fI (k:=.i32) (n:=1) (zs:=[mu]) rfl rfl) (RL.append (.fI (k:=.u32) (n:=1) (zs:=[0]) rfl rfl) (RL.append (RL.iL (S:=fun z=>D z/\z≠r) (w:=w) (n:=16) (by simp[h16]) hr) (.iL (n:=2) rfl (.cons (.v v1) (hone v1 (by simp)) (.cons (.v v2) (hone v2 (by simp)) .nil))))))
 exact⟨_,t,h.blk,h3⟩
theorem bp4{vo vy:Value}(AF:RA D w (.row o [.ints .i64 (o*5) ops]) vo)(hy:vy.oneCell'=true):mH D w [.agg [.ints .i64 4 [2,(i:Nat),nn,fr],.gen 1 [.row o [.ints .i64 (o*5) ops]],.ints .i64 1 [dr],.gen 1 [.v vy]]] [.agg (AC 2 (i:Nat) nn fr vo dr vy)]:=by
 have ho:vo.oneCell'=true:=by obtain⟨a,b,c,rfl⟩:=qg AF;rfl
 have h3:=RL.append (S:=D) (w:=w) (.fI (k:=.i64) (n:=4) (zs:=[2,(i:Nat),nn,fr]) rfl rfl) (RL.append (RL.iL (n:=1) rfl (.cons AF ho .nil)) (RL.append (.fI (k:=.i64) (n:=1) (zs:=[dr]) rfl rfl) (.iL (n:=1) rfl (.cons (.v vy) hy .nil))))
 exact .cons (.agg h3) .nil
end
section
open Pm
theorem WQ.set2{mu n mu' n':Int}{c:Nat->Cm}{t t':TypeId}{v' u':Value}{B':List Nat}{c' ci:Cm}(h:WQ D w r mu n c vs B t)(hj:j<18)(hi:i<18)(hij:i≠j)(hBi:B i=[])
  (hb:aM w' r (vF n' mu' ((vs.set i u').set j v')).toArray t')(hg:bX (fun q=>q=r\/q∈B j) w w')(hB:∀q∈B',q∈B j\/w.heap.size<=q)(hr:r∉B')(hc:c'.p (fun z=>(D z\/w.heap.size<=z)/\z≠r/\z∉B') w' B' v')(hci:ci.p (fun z=>(D z\/w.heap.size<=z)/\z≠r/\z∉B') w' [] u'):
  WQ (fun z=>(D z\/w.heap.size<=z)/\z≠r/\z∉B') w' r mu' n' (upd (upd c i ci) j c') ((vs.set i u').set j v') (upd B j B') t':=by
 have hrl:r<w.heap.size:=h.blk.lt
 have kp:Keeps D w (fun z=>(D z\/w.heap.size<=z)/\z≠r/\z∉B') w':=h.keeps hj hg hB
 have same:∀k,k<18->k≠j->∀q∈B k,w'.heap[q]?=w.heap[q]?:=fun k hk hn q hq=>hg.block q ((c k).lt (h.at' k hk) q hq) fun e=>by
  rcases e with e|e
  ·exact h.ne k hk (by rw[<-e];exact hq)
  ·exact h.sep k j hk hj hn q hq e
 refine⟨by rw[List.length_set,List.length_set];exact h.len,hb,fun k hk=>?_,fun k hk=>?_,fun k i hk hi hn q hq hm=>?_,fun z hz=>⟨hz.2.1,fun k hk hm=>?_⟩⟩
 ·rw[aB]
  by_cases e:k=j
  ·subst e
   rw[if_pos ⟨rfl,by rw[List.length_set,h.len];exact hj⟩]
   simp only[upd,if_true]
   exact hc
  ·rw[if_neg fun e2=>e e2.1.symm,aB]
   by_cases e3:k=i
   ·subst e3
    rw[if_pos ⟨rfl,by rw[h.len];exact hi⟩]
    simp only[upd,if_neg e,if_true]
    rw[hBi];exact hci
   ·rw[if_neg fun e2=>e3 e2.1.symm]
    simp only[upd,if_neg e,if_neg e3]
    exact(c k).up kp (same k hk e) (h.at' k hk)
 ·unfold upd
  split
  ·exact hr
  ·exact h.ne k hk
 ·unfold upd at hq hm
  by_cases e1:k=j
  ·rw[if_pos e1]at hq
   have e2:i≠j:=fun e=>hn (e1.trans e.symm)
   rw[if_neg e2]at hm
   rcases hB q hq with h1|h1
   ·exact h.sep j i hj hi (fun e=>e2 e.symm) q h1 hm
   ·have:=(c i).lt (h.at' i hi) q hm;omega
  ·rw[if_neg e1]at hq
   by_cases e2:i=j
   ·rw[if_pos e2]at hm
    rcases hB q hm with h1|h1
    ·exact h.sep k j hk hj e1 q hq h1
    ·have:=(c k).lt (h.at' k hk) q hq;omega
   ·rw[if_neg e2]at hm
    exact h.sep k i hk hi hn q hq hm
 ·unfold upd at hm
  by_cases e1:k=j
  ·rw[if_pos e1]at hm;exact hz.2.2 hm
  ·rw[if_neg e1]at hm
   rcases hz.1 with h1|h1
   ·exact(h.dat z h1).2 k hk hm
   ·have:=(c k).lt (h.at' k hk) z hm;omega
abbrev IL(l:List A):Cm:=cSl 35 1 l.length [.gen l.length l]
theorem OO(c:CS)(W:Nat->List Seg):∀N,(ny c W N).length=N+1
 |0=>rfl
 |N+1=>by rw[ny,List.length_append,OO c W N];rfl
theorem Ry{c:Nat->Cm}{t:TypeId}(h:WQ D w r 1 n c vs B t)(hG:pI gTab D w)(hi:i<8){L:List Ap}{rows:List A}(hcp:c i=jG (.sref (aP p) 0))(hcq:c 16=IL rows)(hca:c 17=Lh L)(hL:L.length<=1000000)(hlf:aL p.lf=true){vo vy:Value}(AF:RA D w (.row o [.ints .i64 (o*5) ops]) vo)(hy:vy.oneCell'=true)(ho:o≠0)(ho1:o<=3000){s:Vw}{cc:CS}{q:PS}{N:Nat}(hP:P=bW p.e p.zs p.ad p.k p.ch p.lf ops)(hmv:m=vN L P 8)(QS:vz=vZ L P 8)
  (hk:rows.length+1+N<=60)(hE:eX p o ops m vz=0)(hs:s=fq p p.lf o ops)(hc:cc=bJ p s o ops m vz (bF dr))(hq:q=aT p s o ops m vz (bF dr))(hm:dA cc=true)(hw:N=fO s.ng 8)(hW:W=kG (dK q (jF (aK (bF dr))) (dB p (bF dr)) (eB q.ep) (bF dr)) s.ng 8)(hok:K7 N W)(h1:cc.n<=3000)(h2:cc.m<=3000)(h3:cc.k<=3000)(h4:∀j,j<cc.k->(cc.bx j).length<=6000):
  Calls Tryz.prog 29 #[.pointer (some ⟨r,0,none⟩),.agg (AC 2 (i:Nat) nn fr vo dr vy)] w fun e w'=>e=.returned (.int .i64 0)/\∃D' vs' B' t',WQ D' w' r 1 n (upd (upd c i (jG (.sref (aP q) 0))) 16 (IL (rows++ny cc W N))) vs' B' t'/\gY D w r B D' w' B':=by
 obtain⟨ps,po,v17,rfl,h16⟩:=last2 16 vs h.len
 have hkp:Keeps D w (fun z=>D z/\z≠r) w:=⟨yLr _,fun z _ hd=>⟨⟨hd,(h.dat z hd).1⟩,fun _=>rfl⟩⟩
 have Sg:=h.at' 17 (by omega)
 have bA9:(ps++[po,v17]).getD 17 undef=v17:=by rw[yGd,List.getElem?_append_right (by omega),h16];rfl
 have ao7:(ps++[po,v17]).getD 16 undef=po:=by rw[yGd,List.getElem?_append_right (by omega),h16];rfl
 rw[hca,bA9]at Sg
 obtain⟨cq0,Yc,aR0⟩:=Sg
 have Oo:=h.at' 16 (by omega)
 rw[hcq,ao7]at Oo
 obtain⟨cs,FM,LK,ao6⟩:=Oo
 have hl:((ps.map A.v).set i (.sref (aP p) 0)).getD i (.v undef)=.sref (aP p) 0:=by
  rw[yGd,List.getElem?_set_self (by simp;omega)];rfl
 have hpo:(po=.slice none 0 0/\rows.length=0)\/∃ad cp,po=.slice (some ad) rows.length cp:=by
  rcases LK.2 with⟨e1,e2⟩|⟨z,cap,cur,e1,_⟩
  ·exact .inl ⟨e1,e2⟩
  ·exact .inr ⟨_,_,e1⟩
 refine(I8 (S:=D) h.blk.lt (hG.up hkp) (h.hb hi hcp) hi hl hlf LK hk hpo (fun z hz=>⟨wY LK hz,fun e=>h.ne 16 (by omega) (by rw[FM,<-e];exact dV.2 hz),fun hd=>(h.dat z hd).2 16 (by omega) (by rw[FM];exact dV.2 hz)⟩) hL Yc aR0 (fun z hz e=>h.ne 17 (by omega) (by rw[cq0,<-e];exact dV.2 hz)) ho ho1 hP hmv QS hE hs hc hq hm hw hW hok h1 h2 h3 h4 (R:=fun e w'=>e=.returned (.int .i64 0)/\∃D' vs' B' t',WQ D' w' r 1 n (upd (upd c i (jG (.sref (aP q) 0))) 16 (IL (rows++ny cc W N))) vs' B' t'/\gY D w r B D' w' B') ?_ (bp4 (AF.up hkp) hy)).mono fun _ _ h=>h
 intro w2 v' ns T hT g1 g2 g3 g4 g5
 subst hT
 refine⟨rfl,?_⟩
 obtain⟨ls,u1,u2,t',_,hb,k1,k2,k3⟩:=Bz g1
 cases k2;cases k3
 rw[List.set_set]at k1
 obtain⟨u,rfl,k4,k5⟩:=qP k1 (by omega)
 have hBi:B i=[]:=by have:=h.at' i (by omega);rw[hcp]at this;exact this.1
 have hg:bX (fun z=>z=r\/z∈B 16) w w2:=⟨g4.os,g4.tape,g4.output,g4.size,fun z hz hn=>g4.block z hz fun e=>hn (e.imp id fun e=>by rw[FM];exact dV.2 e)⟩
 have hB':∀z∈yD v',z∈B 16\/w.heap.size<=z:=fun z hz=>(g5 z (dV.1 hz)).2.imp (fun e=>by rw[FM];exact dV.2 e) id
 have hset:((ps++[po,v17]).set i u).set 16 v'=ps.set i u++[v',v17]:=by
  rw[List.set_append_left _ _ (by omega),List.set_append_right _ _ (by simp[h16])]
  simp[h16]
 have hrn:r∉yD v':=fun hm=>by
  rcases hB' r hm with e|e
  ·exact h.ne 16 (by omega) e
  ·have:=h.blk.lt;omega
 have ky:Keeps (fun z=>(D z\/w.heap.size<=z)/\z≠r/\v'.ownBlock≠some z) w2 (fun z=>(D z\/w.heap.size<=z)/\z≠r/\z∉yD v') w2:=⟨yLr _,fun z _ hz=>⟨⟨hz.1,hz.2.1,fun e=>hz.2.2 (dV.1 e)⟩,fun _=>rfl⟩⟩
 have hlen:(rows++ny cc W N).length=rows.length+(N+1):=by rw[List.length_append,OO]
 have hrl:RL (fun z=>(D z\/w.heap.size<=z)/\z≠r/\z∉yD v') w2 [.gen (rows++ny cc W N).length (rows++ny cc W N)] (cs++ns):=by
  obtain⟨_,p1⟩:=(ao6.up (h.keeps (j:=16) (by omega) hg hB')).gB
  obtain⟨_,p2⟩:=(g3.up ky).gB
  exact RL.iL rfl (p1.append p2)
 have hw:=h.set2 (j:=16) (i:=i) (v':=v') (u':=u) (B':=yD v') (c':=IL (rows++ny cc W N)) (ci:=jG (.sref (aP q) 0)) (by omega) (by omega) (by omega) hBi (by rw[hset];exact hb) hg hB' hrn ⟨cs++ns,rfl,by rw[hlen];exact g2,hrl⟩ ⟨rfl,k4.up ky,k5⟩
 exact⟨_,_,_,_,hw,h.one (by omega) hg hB'⟩
end
section
open Pm
def WTo(D:Nat->Prop)(w:World)(r:Nat)(mu n:Int)(c':Nat->Cm)(B:Nat->List Nat)(w':World):Prop:=∃D' vs' B' t',WQ D' w' r mu n c' vs' B' t'/\gY D w r B D' w' B'
theorem Qi{c c':Nat->Cm}{t:TypeId}(h:WQ D w r 0 n c vs B t)(hn:0<=n/\n<=1000000)(hi:i<8){vo vy:Value}
  (hsub:∀w1,WQ D w1 r 1 (n+1) c vs B t->Keeps D w D w1->Calls Tryz.prog 29 #[.pointer (some ⟨r,0,none⟩),.agg (AC 2 (i:Nat) nn fr vo dr vy)] w1 fun e w'=>e=.returned (.int .i64 er)/\WTo D w1 r 1 (n+1) c' B w'):
  Calls Tryz.prog 9 #[.pointer (some ⟨r,0,none⟩),.agg (AC 2 (i:Nat) nn fr vo dr vy)] w fun e w'=>e=.returned (.int .i64 er)/\WTo D w r 0 (n+1) c' B w':=by
 obtain⟨ps,bs,po,ap,h1,h2,h3,h4⟩:=Iy h.len
 have hb0:aM w r (WL n 0 ps bs po ap).toArray t:=by rw[<-h4];exact h.blk
 refine(DU w r t n hn ps bs po ap i hi nn fr dr vo vy hb0 (fun v cs w2=>v=.int .i64 er/\∃D' vs' B' t',cs=(vF (n+1) 1 vs').toArray/\WQ D' w2 r 1 (n+1) c' vs' B' t'/\gY D w r B D' w2 B') fun w1 hb1 hg1=>?_).mono ?_
 ·have hq1:WQ D w1 r 1 (n+1) c vs B t:=h.mu (by rw[h4];exact hb1) hg1
  have s1:gY D w r B D w1 B:=.own hg1 fun z hz=>(h.dat z hz).1
  refine(hsub w1 hq1 s1.k).mono ?_
  rintro e w2 ⟨rfl,D',vs',B',t',k1,k2⟩
  exact⟨_,_,_,rfl,⟨rfl,D',vs',B',t',rfl,k1,s1.trans k2⟩,k1.blk,by rw[List.getElem?_toArray];rfl⟩
 ·rintro e w' ⟨v,cs,w2,t',rfl,⟨rfl,D',vs',B',t2,rfl,k1,k2⟩,rfl,hb2⟩
  have hb3:aM (w2.setCell ⟨r,1,none⟩ (.int .i32 0)) r (vF (n+1) 0 vs').toArray t2:=(k1.blk.set 1 _).copy Iw
  have hg3:w2.grownBy (w2.setCell ⟨r,1,none⟩ (.int .i32 0)) (some r):=ay (bH w2 _) 1 _
  exact⟨rfl,D',vs',B',t2,k1.mu hb3 hg3,k2.trans (.own hg3 fun z hz=>(k1.dat z hz).1)⟩
end
section
open Pm
def cW0(j:Nat):Cm:=if j=0 then jG (.sref (aP (bD (qU 0))) 0)else if j<8 then jG (.v (.pointer none))else if j<16 then Jo ⟨[],0,0⟩else if j=16 then IL []else if j=17 then Lh []else jG (.v (.pointer none))
def aX0:Option Value->List Nat
 |some (.pointer (some ⟨q,0,none⟩))=>[q]
 |_=>[]
theorem xk{v:Option Value}(h:q∈aX0 v):v=some (.pointer (some ⟨q,0,none⟩)):=by
 unfold aX0 at h
 split at h
 ·simp at h;rw[h]
 ·cases h
theorem aU2(S:Nat->Prop)(w:World)(hG:pI gTab S w):Calls Tryz.prog 6 #[] w fun e w'=>e=.returned (.pointer (some ⟨w.heap.size,0,none⟩))/\∃D vs B t,WQ D w' w.heap.size 0 0 cW0 vs B t/\Below w.heap.size w w'/\Keeps S w D w'/\(∀z,w'.heap.size<=z->D z)/\(∀z,D z->S z\/w.heap.size<=z)/\∀j q,q∈B j->w.heap.size<=q:=by
 refine(Yo S w hG).mono ?_
 rintro e w' ⟨bs,rfl,hl,hb,hne,hbel,hB⟩
 refine⟨rfl,?_⟩
 obtain⟨ls,u1,u2,t,h16,hblk,k1,k2,k3⟩:=Bz hB
 cases k2;cases k3
 have e0:D9 8++bs.map A.v=(List.replicate 8 (Value.pointer none)++bs).map A.v:=by simp[D9]
 rw[e0]at k1
 obtain⟨u,rfl,k4,k5⟩:=qP k1 (by simp)
 have hbq:∀i,i<8->∃q,bs[i]?=some (.pointer (some ⟨q,0,none⟩))/\w'.heap[q]?=some Ng/\w.heap.size<q:=hb
 have hL:((List.replicate 8 (Value.pointer none)++bs).set 0 u).length=16:=h16
 refine⟨fun z=>((S z/\z<w.heap.size)\/w.heap.size<z)/\∀i,i<8->bs[i]?≠some (Value.pointer (some ⟨z,0,none⟩)),((List.replicate 8 (Value.pointer none)++bs).set 0 u)++[Value.slice none 0 0,Value.slice none 0 0],fun j=>if j<8 then[]else aX0 bs[j-8]?,t,⟨by simp[hl],hblk,fun j hj=>?_,fun j hj hm=>?_,fun j k hj hk hn q hq hm=>?_,fun z hz=>⟨?_,fun j hj hm=>?_⟩⟩,hbel,⟨hbel.size,fun z hz hd=>⟨⟨.inl ⟨hd,hz⟩,fun i hi e=>?_⟩,fun o=>World.cell?_of_block (hbel.block z hz)⟩⟩,fun z hz=>⟨.inr ?_,fun i hi e=>?_⟩,fun z hz=>hz.1.imp And.left Nat.le_of_lt,fun j q hm=>?_⟩
 ·by_cases j0:j=0
  ·subst j0
   exact⟨rfl,k4,k5⟩
  by_cases j8:j<8
  ·unfold cW0
   rw[if_neg j0,if_pos j8]
   have ev:(((List.replicate 8 (Value.pointer none)++bs).set 0 u)++[Value.slice none 0 0,Value.slice none 0 0]).getD j undef=.pointer none:=by
    rw[yGd,List.getElem?_append_left (by omega),List.getElem?_set_ne (by omega),List.getElem?_append_left (by simpa using j8),List.getElem?_replicate,if_pos j8];rfl
   rw[ev]
   exact⟨by simp[j8],.v _,rfl⟩
  by_cases j16:j<16
  ·unfold cW0
   rw[if_neg j0,if_neg j8,if_pos j16]
   obtain⟨q,q1,q2,q3⟩:=hbq (j-8) (by omega)
   have ev:(((List.replicate 8 (Value.pointer none)++bs).set 0 u)++[Value.slice none 0 0,Value.slice none 0 0]).getD j undef=.pointer (some ⟨q,0,none⟩):=by
    rw[yGd,List.getElem?_append_left (by omega),List.getElem?_set_ne (by omega),List.getElem?_append_right (by simpa using j8),List.length_replicate,q1];rfl
   rw[ev]
   have hq:q<w'.heap.size:=(yAe.1 q2).1
   exact⟨q,[],by simp only[if_neg j8];rw[q1];rfl,rfl,fun z hz=>by simp at hz;rw[hz];exact hq,nC.to (t:=92) (v:=.slice none 0 0) ⟨q2,⟨rfl,.inl ⟨rfl,rfl⟩⟩,by simp[Value.ownBlock],by simp⟩ (by simp[Value.ownBlock]),yLr _,by simp⟩
  ·have hn:bs[j-8]?=none:=List.getElem?_eq_none (by omega)
   have hBj:(if j<8 then[]else aX0 bs[j-8]?)=[]:=by rw[if_neg j8,hn];rfl
   unfold cW0
   rw[if_neg j0,if_neg j8,if_neg j16]
   by_cases Sg:j=16
   ·rw[if_pos Sg]
    have ev:(((List.replicate 8 (Value.pointer none)++bs).set 0 u)++[Value.slice none 0 0,Value.slice none 0 0]).getD j undef=.slice none 0 0:=by
     rw[yGd,List.getElem?_append_right (by omega),hL,Sg];rfl
    rw[ev]
    exact⟨[],hBj,⟨rfl,.inl ⟨rfl,rfl⟩⟩,RL.iL rfl .nil⟩
   ·rw[if_neg Sg,if_pos (show j=17 by omega)]
    have ev:(((List.replicate 8 (Value.pointer none)++bs).set 0 u)++[Value.slice none 0 0,Value.slice none 0 0]).getD j undef=.slice none 0 0:=by
     rw[yGd,List.getElem?_append_right (by omega),hL,show j=17 by omega];rfl
    rw[ev]
    exact⟨hBj,⟨rfl,.inl ⟨rfl,rfl⟩⟩,by simp⟩
 ·skip
  split at hm
  ·cases hm
  ·next j8=>
   have:=xk hm
   have hi:j-8<8:=by
    have:=(List.getElem?_eq_some_iff.1 this).1;omega
   obtain⟨q,q1,_,q3⟩:=hbq (j-8) hi
   rw[this]at q1
   have:w.heap.size=q:=by first|(simp at q1;done)|simpa using q1
   omega
 ·skip
  split at hq
  ·cases hq
  split at hm
  ·cases hm
  have a1:=xk hq
  have a2:=xk hm
  have i1:=(List.getElem?_eq_some_iff.1 a1).1
  have i2:=(List.getElem?_eq_some_iff.1 a2).1
  have:=hne (j-8) (k-8) q (by omega) (by omega) a1 a2
  omega
 ·rcases hz.1 with h|h
  ·omega
  ·omega
 ·skip
  split at hm
  ·cases hm
  have a1:=xk hm
  have i1:=(List.getElem?_eq_some_iff.1 a1).1
  exact hz.2 (j-8) (by omega) a1
 ·obtain⟨q,q1,_,q3⟩:=hbq i hi
  rw[e]at q1
  have:z=q:=by first|(simp at q1;done)|simpa using q1
  omega
 ·have:=hblk.lt;omega
 ·obtain⟨q,q1,q2,q3⟩:=hbq i hi
  rw[e]at q1
  have:z=q:=by first|(simp at q1;done)|simpa using q1
  have:=(yAe.1 q2).1
  omega
 ·dsimp only at hm
  split at hm
  ·cases hm
  have a1:=xk hm
  have i1:=(List.getElem?_eq_some_iff.1 a1).1
  obtain⟨q',q1,_,q3⟩:=hbq (j-8) (by omega)
  rw[a1]at q1
  have:q=q':=by first|(simp at q1;done)|simpa using q1
  omega
end
section
open Pm
attribute [local irreducible] aN aQ bq
theorem XE(k:Nat)(l:List A)(hk:k≠0)(h1:k<=1000):aV 35 [.row k [.gen k l]] (.o 35 1 k [.gen k l]):=by
 refine eO (E:=oW) Tryz.func35 Tryz.ntmps35 ?_
 refine ah ?_;(try exact⟨⟩)
theorem XD(k:Nat)(b:List UInt8)(hk:k≠0)(h1:k<=1000000):aV 36 [.row k [.bytes k b]] (.o 5 1 k [.bytes k b]):=by
 refine eO (E:=oW) Tryz.func36 Tryz.ntmps36 ?_
 refine ah ?_;(try exact⟨⟩)
 show bC.o _ 1 k [.bytes (0+k) ([]++b)]=_
 rw[Nat.zero_add,List.nil_append]
def Rs:List A->(bC->Prop)->Prop
 |[.row k [.bytes k' b]],K=>k'=k/\k≠0/\k<=1000000/\K (.d (.row k [.bytes k b]))
 |_,_=>False
theorem XF:∀args K,Rs args K->∃r,aV 36 args r/\K r:=by
 intro args K h
 unfold Rs at h
 split at h
 ·obtain⟨rfl,h1,h2,h⟩:=h
  exact⟨_,sw (XD _ _ h1 h2),h⟩
 ·exact h.elim
noncomputable def aj2:ak:=oW.add 36 Rs XF (.of Tryz.func36)
theorem bE8{e:TypeId}{k:Nat}{cs:List Value}(h:w.ownsRow 0 e 1 v k cs)(ho:∀x∈cs,x.oneCell'=true):RA (fun q=>v.ownBlock=some q) w (.row k [.gen k (cs.map .v)]) v:=by
 have rg:∀{l:List Value},(∀x∈l,x.oneCell'=true)->RG (fun q=>v.ownBlock=some q) w (l.map .v) l:=by
  intro l
  induction l with
  |nil=>intro _;exact .nil
  |cons x l ih=>intro hl;exact .cons (.v _) (hl x (by simp)) (ih fun y hy=>hl y (by simp[hy]))
 have hl:cs.length=k:=by rw[h.1,Nat.mul_one]
 have hr:RL (fun q=>v.ownBlock=some q) w [.gen k (cs.map .v)] cs:=RL.iL (by simp[hl]) (rg ho)
 rcases h.2 with⟨rfl,rfl⟩|⟨g,cap,cur,rfl,h1,h2,h3,h4,h5⟩
 ·obtain rfl:cs=[]:=List.length_eq_zero_iff.1 hl
  exact .row hr (yLr _) (Nat.zero_le _) (fun _=>rfl) (.inl rfl)
 ·refine .row hr h3 h4 (fun e=>by cases e) (.inr ⟨g,0,rfl,rfl,(yAe.1 h2).1,fun i hi=>?_⟩)
  have:=World.ownsRow.cells h (g:=g) rfl i cs[i] (yGe hi)
  rw[mP]at this
  exact this
theorem ay5{r k:Nat}{t:TypeId}{L:Array Value}{po v:Value}{cs:List Value}(hb:aM w r L t)(h:w.ownsRow 0 35 1 po k cs)(hne:po.ownBlock≠some r):(w.setCell ⟨r,1,none⟩ v).ownsRow 0 35 1 po k cs:=lX h fun q hq=>by
 refine heap_setCell_other w ⟨r,1,none⟩ q v ?_
 rcases h.2 with⟨e1,e2⟩|⟨q',cap,cur,e1,_⟩
 ·rw[e1]at hq;cases hq
 ·rw[e1]at hq hne;cases hq
  intro e
  exact hne (congrArg some e)
theorem YW(S:Nat->Prop)(w:World)(r:Nat)(t:TypeId)(n:Int)(ps bs:List Value)(po ap:Value)(k:Nat)(cs:List Value)(rows:List A)(hps:ps.length=8)(hbs:bs.length=8)(hb:aM w r (WL n 0 ps bs po ap).toArray t)(hown:w.ownsRow 0 35 1 po k cs)(hne:po.ownBlock≠some r)
  (hS:¬S r)(hG:pI gTab S w)(hrows:RG S w rows cs)(hk:k<=1000)(hrw:∀j,j<k->∃L B,rows.getD j (.v undef)=.row L [.bytes L B]/\L≠0/\L<=1000000)
  (hcl:∀w1,pI gTab S w1->w1.ownsRow 0 35 1 po k cs->Calls Tryz.prog 35 #[po] w1 fun e w2=>∃sv,e=.returned sv/\w2.ownsRow w1.heap.size 35 1 sv k cs/\Below w1.heap.size w1 w2):
  Calls Tryz.prog 13 #[.pointer (some ⟨r,0,none⟩)] w fun e w'=>∃v w2,e=.returned v/\RA (fun q=>S q\/w.heap.size<=q) w2 (.row k [.gen k rows]) v/\w'=w2.setCell ⟨r,1,none⟩ (.int .i32 0)/\aM w2 r (WL n 1 ps bs po ap).toArray t/\w.grownBy w2 (some r):=by
 have hb1:aM (w.setCell ⟨r,1,none⟩ (.int .i32 1)) r (WL n 1 ps bs po ap).toArray t:=(hb.set 1 _).copy (EP 1)
 have hg1:w.grownBy (w.setCell ⟨r,1,none⟩ (.int .i32 1)) (some r):=ay (bH w _) 1 _
 have c1:w.cell? ⟨r,1,none⟩=some (.int .i32 0):=(hb.cell 1).trans (by rw[List.getElem?_toArray];rfl)
 have c2:(w.setCell ⟨r,1,none⟩ (.int .i32 1)).cell? ⟨r,19,none⟩=some po:=(hb1.cell 19).trans (by
  rw[List.getElem?_toArray]
  show(ps++(bs++[po,ap]))[16]?=some po
  rw[List.getElem?_append_right (by omega),List.getElem?_append_right (by omega),hps,hbs]
  rfl)
 have hsz:(w.setCell ⟨r,1,none⟩ (.int .i32 1)).heap.size=w.heap.size:=by simp[World.setCell]
 have hG2:pI gTab S (w.setCell ⟨r,1,none⟩ (.int .i32 1)):=hG.up ⟨by rw[hsz];exact yLr _,fun z hz hd=>⟨hd,fun o=>World.cell?_of_block (heap_setCell_other w ⟨r,1,none⟩ z _ (fun e=>hS (by rw[<-show z=r from e];exact hd)))⟩⟩
 have HG2:=yHd hG2;clear hG2
 have HB:=yHd hb;have HB1:=yHd hb1;have KY:=yHd hg1;have C1:=yHd c1;have HC:=yHd hcl
 have HO:=yHd hown;have HN:=yHd hne;have HS:=yHd hS;have HG:=yHd hG;have HR:=yHd hrows;have HK:=yHd hk;have HW:=yHd hrw;have HZ:=yHd hsz
 clear hb hb1 hg1 hcl c1 hown hps hbs hne hS hG hrows hk hrw hsz
 go_enter_defers Tryz.func13,Tryz.ntmps13
 go_wp2_with (first|(go_at_call 26;refine(lock_free ⟨r,1,none⟩ _ C1.out (HB.out.frozen 1)).mono ?_;rintro e w' ⟨rfl,rfl⟩)|(go_at_call 35;refine(HC.out _ HG2.out (ay5 HB.out HO.out HN.out)).mono ?_;rintro e w2 ⟨sv,rfl,hsv,hbel⟩;obtain⟨ad,cp,rfl⟩:=ownsRow_form hsv;have HSV:=yHd hsv;have cl9:=yHd hbel;clear hsv hbel))
 rename_i K ha
 have hsv:=HSV.out
 have hbel:=cl9.out
 rw[HZ.out]at hsv hbel
 have ct2:∀z,Rl (.slice ad k cp) z->w.heap.size<=z:=fun z hz=>(iM hsv hz).1
 have kk:Keeps S w (Dt S w.heap.size (fun b=>if b=0 then some (.slice ad k cp)else none)) w2:=by
  refine⟨by have:=hbel.size;rw[HZ.out]at this;exact this,fun z hz hd=>⟨⟨.inl hd,fun b u hb hu=>?_⟩,fun o=>World.cell?_of_block ?_⟩⟩
  ·dsimp only at hb
   split at hb
   ·cases hb;have:=ct2 z hu;omega
   ·cases hb
  ·rw[hbel.block z hz]
   exact heap_setCell_other w ⟨r,1,none⟩ z _ (fun e=>HS.out (by rw[<-show z=r from e];exact hd))
 have hrl:RL (Dt S w.heap.size (fun b=>if b=0 then some (.slice ad k cp)else none)) w2 [.gen k rows] cs:=RL.iL (by rw[HR.out.two,hsv.1,Nat.mul_one]) (HR.out.up kk)
 refine GX.out (E:=aj2) (S:=S) (base:=w.heap.size) (w0:=⟨w2,fun _=>False,none,[{ target:=.fn (.func 27) #[],args:=#[.pointer (some ⟨r,1,none⟩)] }]⟩) (s:=⟨([.pointer (some ⟨r,0,none⟩),undef,.slice none 0 0,.slice ad k cp,undef,.pointer (some ⟨r,0,none⟩),.bool false,.pointer (some ⟨r,0,none⟩),.pointer (some ⟨r,0,none⟩),.pointer (some ⟨r,1,none⟩),.tuple #[],.pointer (some ⟨r,0,none⟩),.pointer (some ⟨r,0,none⟩),.pointer (some ⟨r,1,none⟩),.pointer (some ⟨r,0,none⟩),.pointer (some ⟨r,0,none⟩),.pointer (some ⟨r,19,none⟩),po,.slice ad k cp,.slice ad k cp,.int .i64 (k:Nat),.int .i64 0,undef,undef,undef,undef,undef,undef,undef,undef,undef,undef,undef,undef].map fun v=>T.d (.v v)).set 3 (.own 0 k),[some (.sl 35 1 k [.gen k rows])]⟩) ?_ (fun b=>if b=0 then some (.slice ad k cp)else none) _ _ ?_
 rotate_left
 ·refine at0 (E:=aj2) (S:=S) (sv:=.slice ad k cp) (l:=[.gen k rows]) 3 kk.1 hsv (HG.out.up kk) hrl ?_ ?_ ?_ ?_
  ·rfl
  ·rfl
  ·exact Nat.le_of_ble_eq_true rfl
  ·rfl
 simp only[List.map_cons,List.map_nil,dz_0,RU,Seg.n,wn1,wn2,wn3,wn4,wn5,wn6,wn7,wn8,wn9,UG,UH,UJ,UK,UL,UM,UN,Int.reduceAdd,Int.zero_add,Seg.cell,Seg.sub,List.set_nil,jS,rZ,List.take_append_drop,St.app,St.qW,St.ev,List.getD_cons_zero,List.getD_cons_succ,List.getD_nil,St.sl,St.bk,mF,kD,pG,iX,bU,weaken,qF,List.set_cons_zero,List.set_cons_succ,List.length_cons,List.length_nil,List.cons_append,List.nil_append,List.append_nil,List.map_cons,List.map_nil,List.replicate_succ,List.replicate_zero,List.take_succ_cons,List.take_zero,List.drop_succ_cons,List.drop_zero,List.take_nil,List.drop_nil,Nat.reduceAdd,Nat.reduceSub,Nat.reduceMul,Nat.reduceEqDiff,Nat.reduceLT,Nat.reduceLeDiff,Nat.zero_add,Nat.add_zero,Nat.sub_self,Nat.sub_zero,Nat.one_mul,Nat.mul_one,Nat.zero_mul,kT,qH,List.flatten_cons,List.flatten_nil,eq_self,ite_true,if_true,if_false,↓reduceIte,reduceCtorEq,Int.reduceToNat]
 refine GX.of ?_
 refine ah ?_
 have hlen:rows.length=k:=by rw[HR.out.two,hsv.1,Nat.mul_one]
 refine aX.mk (cB [3,20,21] [0] k (fun j=>⟨.au::.au::.au::.own 0 k::dz 16 (.d (.v (.int .i64 (k:Nat)))::.d (.v (.int .i64 (j:Nat)))::dz 12 []),[some (.sl 35 1 k [.gen k rows])]⟩) ?_)
 intro j hj hl
 have hk1:=HK.out
 by_cases h:j<k
 ·have g1:(j:Int)<k:=by omega
  obtain⟨L,B,e1,e2,e3⟩:=HW.out j h
  have e4:rows.set j (.row L [.bytes L B])=rows:=by
   refine List.ext_getElem (by simp) fun i h1 h2=>?_
   rw[List.getElem_set]
   split
   ·next q=>subst q;rw[<-e1,yGd,yGe (by omega)];rfl
   ·rfl
  have E4:=yHd e4
  clear e4
  have el:loc [.gen k rows] 0=some ([],.gen k rows,[],0):=by unfold loc;rw[if_pos (by show 0<k;omega)]
  have EL:=yHd el
  clear el
  refine ah ?_
  rw[e1]
  refine ah ?_
  rw[EL.out]
  refine ah ?_
  refine hl.go h [3,20,21] [0] ?_
  try dsimp only
  rw[E4.out]
  rfl
 ·obtain rfl:k=j:=by omega
  refine ah ?_
  refine GQ.mk fun ρ a w3 g=>?_
  show K a w3
  refine ha a w3 (GX.out ?_ ρ a w3 g)
  refine GX.of ?_
  refine ah ?_
  refine GQ.mk fun ρ a w3 g=>?_
  show Leaves _ _ _ _ a.defers .returning w3
  have hd:a.defers=_:=g.defs
  rw[hd]
  have h3:aM w3 r (WL n 1 ps bs po ap).toArray t:=by
   show w3.heap[r]?=_
   have hr:r<w.heap.size:=HB.out.lt
   rw[g.iE.block r hr (fun h=>h),hbel.block r hr]
   exact HB1.out
  have hg3:w.grownBy w3 (some r):=by
   have hs:=hbel.size
   rw[HZ.out]at hs
   refine⟨g.iE.os.trans (hbel.os.trans KY.out.os),g.iE.tape.trans (hbel.tape.trans KY.out.tape),g.iE.output.trans (hbel.output.trans KY.out.output),yLt hs g.iE.size,fun z hz hn=>?_⟩
   rw[g.iE.block z hz (fun h=>h),hbel.block z hz]
   exact KY.out.block z hz hn
  refine leaves_cons (f:=27) (args:=#[.pointer (some ⟨r,1,none⟩)]) (by simp) (by simp[go_sem]) ?_
  refine(unlock_deferred ⟨r,1,none⟩ _ _ ((h3.cell 1).trans (by rw[List.getElem?_toArray];rfl)) (h3.frozen 1)).mono ?_
  rintro e u' w4 ⟨rfl,rfl,hw4⟩
  have hv:=g.ev (.tmp 2)
  obtain⟨cs',hρ,ho,hl2⟩:=lM g rfl hv
  obtain⟨Nk,cp2,hf⟩:=ownsRow_form ho
  show ∃v,(results Tryz.f13 a.tmps).run Tryz.prog w4=.ok v w4/\_
  refine⟨a.tmps.getD 2 undef,gP rfl rfl,a.tmps.getD 2 undef,w3,rfl,?_,hw4,h3,hg3⟩
  exact ME (S:=S) (B:=w.heap.size) ⟨cs',ho,hl2.up (dw fun z hz=>⟨hz.1,fun e=>hz.2 0 _ hρ ((uZ ⟨_,_,_,hf⟩).2 e)⟩)⟩
end
section
open Pm
attribute [local irreducible] aN aQ bq
theorem XC:aV 35 [.v (.slice none 0 0)] (.d (.v (.slice none 0 0))):=by
 refine eO (E:=oW) Tryz.func35 Tryz.ntmps35 ?_
 refine ah ?_;(try exact⟨⟩)
theorem aB2{S:Nat->Prop}{w:World}:∀{l:List A} {cs:List Value},RG S w l cs->∀x∈cs,x.oneCell'=true
 |_,_,.nil,x,h=>by cases h
 |_,_,.cons _ h1 r,x,h=>by
  rcases List.mem_cons.1 h with rfl|h
  ·exact h1
  ·exact aB2 r x h
theorem Wx{S:Nat->Prop}{w:World}:∀{l cs:List Value},RG S w (l.map .v) cs->cs=l
 |[],_,h=>by cases h;rfl
 |x::l,_,h=>by
  cases h with
  |cons a b r=>rw[Wx r,qw a]
theorem XI{po:Value}{k:Nat}{cs:List Value}(hk:k<=1000)(ho:∀x∈cs,x.oneCell'=true)(hn:k=0->po=.slice none 0 0)(w1:World)(hG:pI gTab S w1)(h:w1.ownsRow 0 35 1 po k cs):
  Calls Tryz.prog 35 #[po] w1 fun e w2=>∃sv,e=.returned sv/\w2.ownsRow w1.heap.size 35 1 sv k cs/\Below w1.heap.size w1 w2:=by
 by_cases h0:k=0
 ·subst h0
  have hcs:cs=[]:=List.length_eq_zero_iff.1 (by rw[h.1])
  subst hcs
  obtain rfl:=hn rfl
  refine(XC S w1 [_] hG (.cons (.v _) .nil)).mono ?_
  rintro e w2 ⟨v,rfl,h1,h2⟩
  exact⟨_,rfl,by rw[qw h1];exact⟨rfl,.inl ⟨rfl,rfl⟩⟩,h2⟩
 ·refine(XE k (cs.map .v) h0 hk (fun q=>S q\/po.ownBlock=some q) w1 [po] (hG.up (dw fun z hz=>.inl hz)) (.cons ((bE8 h ho).up (dw fun z hz=>.inr hz)) .nil)).mono ?_
  rintro e w2 ⟨v,rfl,⟨cs',h1,h2⟩,h3⟩
  obtain rfl:=Wx (h2.gB).2
  exact⟨_,rfl,h1,h3⟩
end
section
open Pm
theorem WQ.wide{D D':Nat->Prop}{mu n:Int}{c:Nat->Cm}{t:TypeId}(h:WQ D w r mu n c vs B t)(hD:∀z,D z->D' z)(hn:∀z,D' z->D z\/(z≠r/\∀j,j<18->z∉B j)):WQ D' w r mu n c vs B t:=
 ⟨h.len,h.blk,fun j hj=>(c j).up (dw hD) (fun _ _=>rfl) (h.at' j hj),h.ne,h.sep,fun z hz=>(hn z hz).elim (h.dat z) id⟩
theorem R4{args:List A}{a:A}{c c':Nat->Cm}
  (hf:∀(D:Nat->Prop) (w:World) (r:Nat) (vs:List Value) (B:Nat->List Nat) (t:TypeId) (av:List Value),WQ D w r 0 n c vs B t->pI gTab D w->mH D w args av->
   Calls Tryz.prog f (.pointer (some ⟨r,0,none⟩)::av).toArray w fun e w'=>∃v D' vs' B' t',e=.returned v/\WQ D' w' r 0 n' c' vs' B' t'/\gY D w r B D' w' B'/\RA D' w' a v):
  vC Tryz.prog gTab f 0 (jQ 0 n c) args (.d a) (jQ 0 n' c'):=by
 intro S w r F av hG hlt hp hA hS
 obtain⟨vs,B,t,hq,hB⟩:=aI1 hp hS
 refine(hf S w r vs B t av hq hG hA).mono ?_
 rintro e w' ⟨v,D',vs',B',t',rfl,k1,k2,k3⟩
 have hF:∀q,q∈(List.range 18).flatMap B'↔∃j,j<18/\q∈B' j:=fun q=>by simp[List.mem_flatMap]
 have hD:∀z,D' z->(S z\/w.heap.size<=z)/\z∉r::(List.range 18).flatMap B':=fun z hz=>⟨k2.lo z hz,fun hm=>by
  rcases List.mem_cons.1 hm with e|hm
  ·exact(k1.dat z hz).1 e
  ·obtain⟨j,hj,hm⟩:=(hF z).1 hm
   exact(k1.dat z hz).2 j hj hm⟩
 refine⟨v,(List.range 18).flatMap B',[],rfl,fun q hq=>?_,fun q hq=>?_,⟨vs',B',t',by simp,k1.len,k1.blk,fun j hj=>(c' j).up (dw fun z hz=>⟨hD z hz,by simp⟩) (fun _ _=>rfl) (k1.at' j hj),k1.ne,k1.sep,fun j hj q hq=>List.mem_cons_of_mem _ ((hF q).2 ⟨j,hj,hq⟩)⟩,RA.up (dw hD) k3,⟨k2.g.os,k2.g.tape,k2.g.output,k2.g.size,fun z hz hn=>k2.g.block z hz fun e=>hn ?_⟩⟩
 ·obtain⟨j,hj,hm⟩:=(hF q).1 hq
  exact(k2.b j hj q hm).imp (fun⟨k,hk,h⟩=>hB k hk q h) id
 ·rcases List.mem_cons.1 hq with rfl|hq
  ·exact k1.blk.lt
  ·obtain⟨j,hj,hm⟩:=(hF q).1 hq
   exact k1.lt hj hm
 ·rcases e with e|⟨j,hj,e⟩
  ·rw[e];simp
  ·exact hB j hj z e
theorem Xf{kd who nn fr dr:Int}{x y:A}(h:RA D w (.agg [.ints .i64 4 [kd,who,nn,fr],.gen 1 [x],.ints .i64 1 [dr],.gen 1 [y]]) v):∃vx vy,v=.agg (AC kd who nn fr vx dr vy)/\RA D w x vx/\RA D w y vy/\vx.oneCell'=true/\vy.oneCell'=true:=by
 cases h with
 |agg hl=>
  rename_i cs
  obtain⟨c1,d1,e1,k1,r1,_⟩:=hl.head
  obtain⟨c2,d2,e2,k2,r2,_⟩:=r1.head
  obtain⟨c3,d3,e3,k3,r3,_⟩:=r2.head
  obtain⟨_,rfl⟩:=k1.fB
  obtain⟨_,rfl⟩:=k3.fB
  obtain⟨_,q2⟩:=k2.gB
  obtain⟨_,q4⟩:=r3.gB
  cases q2 with
  |cons a1 o1 n1=>
   cases n1
   cases q4 with
   |cons a2 o2 n2=>
    cases n2
    refine⟨_,_,?_,a1,a2,o1,o2⟩
    congr 1
    apply Array.toList_inj.1
    rw[e1,e2,e3]
    rfl
theorem Ar{c c':Nat->Cm}{kd who nn fr dr er:Int}{x y:A}
  (hf:∀(D:Nat->Prop) (w:World) (r:Nat) (vs:List Value) (B:Nat->List Nat) (t:TypeId) (vo vy:Value),WQ D w r 0 n c vs B t->pI gTab D w->RA D w x vo->RA D w y vy->vo.oneCell'=true->vy.oneCell'=true->
   Calls Tryz.prog 9 #[.pointer (some ⟨r,0,none⟩),.agg (AC kd who nn fr vo dr vy)] w fun e w'=>e=.returned (.int .i64 er)/\WTo D w r 0 (n+1) c' B w'):
  vC Tryz.prog gTab 9 0 (jQ 0 n c) [.agg [.ints .i64 4 [kd,who,nn,fr],.gen 1 [x],.ints .i64 1 [dr],.gen 1 [y]]] (.d (.v (.int .i64 er))) (jQ 0 (n+1) c'):=by
 refine R4 fun D w r vs B t av h hG hA=>?_
 cases hA with
 |cons a1 hnil=>
  cases hnil
  obtain⟨vx,vy,rfl,hx,hy,o1,o2⟩:=Xf a1
  refine(hf D w r vs B t vx vy h hG hx hy o1 o2).mono ?_
  rintro e w' ⟨rfl,D',vs',B',t',k1,k2⟩
  exact⟨_,D',vs',B',t',rfl,k1,k2,.v _⟩
theorem aU0:aV 6 [] (.ob (jQ 0 0 cW0)):=by
 intro S w vs hG ha
 obtain rfl:=Rc ha
 refine(aU2 S w hG).mono ?_
 rintro e w' ⟨rfl,D,vs,B,t,h,hb,hk,hd,hlo,hnew⟩
 have hF:∀q,q∈(List.range 18).flatMap B↔∃j,j<18/\q∈B j:=fun q=>by simp[List.mem_flatMap]
 refine⟨_,rfl,⟨w.heap.size,(List.range 18).flatMap B,rfl,fun q hq=>?_,⟨vs,B,t,by simp,h.len,h.blk,fun j hj=>(cW0 j).up (dw fun z hz=>⟨hlo z hz,fun hm=>?_⟩) (fun _ _=>rfl) (h.at' j hj),h.ne,h.sep,fun j hj q hq=>List.mem_cons_of_mem _ ((hF q).2 ⟨j,hj,hq⟩)⟩⟩,hb⟩
 ·rcases List.mem_cons.1 hq with rfl|hq
  ·exact⟨yLr _,h.blk.lt⟩
  ·obtain⟨j,hj,hm⟩:=(hF q).1 hq
   exact⟨hnew j q hm,h.lt hj hm⟩
 ·rcases List.mem_cons.1 hm with e|hm
  ·exact(h.dat z hz).1 e
  ·obtain⟨j,hj,hm⟩:=(hF z).1 hm
   exact(h.dat z hz).2 j hj hm
theorem ba0{c:Nat->Cm}(hn:0<=n/\n<=1000000)(hi:i<8){y:BS}{L:List Ap}(hcp:c i=jG (.sref (aP p) 0))(hcb:c (8+i)=Jo y)(hca:c 17=Lh L)(hL:L.length<=1000){z:A}(hm:m<=1000000)(hol:ops.length=m*5)(hdr: -9223372036854775808<=dr/\dr<=9223372036854775807)(hyf:y.f<=1000){c':Nat->Cm}{y':BS}{L':List Ap}(hr:jZ p y L fr ops m nn dr=(er,y',L'))(hc:c'=upd (upd c (8+i) (Jo y')) 17 (Lh L'))
  (hwf:yZ y p.e:=by assumption)
  (bA7:(nn==1)=false:=by first|rfl|assumption)
  :
  vC Tryz.prog gTab 9 0 (jQ 0 n c) [.agg [.ints .i64 4 [1,(i:Nat),nn,fr],.gen 1 [.row m [.ints .i64 (m*5) ops]],.ints .i64 1 [dr],.gen 1 [z]]] (.d (.v (.int .i64 er))) (jQ 0 (n+1) c'):=by
 refine Ar fun D w r vs B t vo vy h hG hx hy o1 o2=>?_
 refine(aE7 (i:=i) h hn hG hi hcp hcb hca hL hx hm hol hdr hyf).mono ?_
 rintro e w' ⟨rfl,D',vs',B',k1,k2⟩
 rw[hr]at k1 ⊢
 exact⟨rfl,D',vs',B',t,hc▸k1,k2⟩
theorem aZ8{c:Nat->Cm}(hn:0<=n/\n<=1000000)(hi:i<8){L:List Ap}{rows:List A}(hcp:c i=jG (.sref (aP p) 0))(hcq:c 16=IL rows)(hca:c 17=Lh L)(hL:L.length<=1000000)(hlf:aL p.lf=true){z:A}(ho:o≠0)(ho1:o<=3000)(hmv:m=vN L (bW p.e p.zs p.ad p.k p.ch p.lf ops) 8)(QS:vz=vZ L (bW p.e p.zs p.ad p.k p.ch p.lf ops) 8)
  {s:Vw}{cc:CS}{q:PS}{N:Nat}(hk:rows.length+1+N<=60)(hE:eX p o ops m vz=0)(hs:s=fq p p.lf o ops)(hc:cc=bJ p s o ops m vz (bF dr))(hq:q=aT p s o ops m vz (bF dr))(hm:dA cc=true)(hw:N=fO s.ng 8)(hW:W=kG (dK q (jF (aK (bF dr))) (dB p (bF dr)) (eB q.ep) (bF dr)) s.ng 8)(hok:K7 N W)(h1:cc.n<=3000)(h2:cc.m<=3000)(h3:cc.k<=3000)(h4:∀j,j<cc.k->(cc.bx j).length<=6000)
  {c':Nat->Cm}(hc':c'=upd (upd c i (jG (.sref (aP q) 0))) 16 (IL (rows++ny cc W N))):
  vC Tryz.prog gTab 9 0 (jQ 0 n c) [.agg [.ints .i64 4 [2,(i:Nat),nn,fr],.gen 1 [.row o [.ints .i64 (o*5) ops]],.ints .i64 1 [dr],.gen 1 [z]]] (.d (.v (.int .i64 0))) (jQ 0 (n+1) c'):=by
 subst hc'
 refine Ar fun D w r vs B t vo vy h hG hx hy o1 o2=>?_
 refine Qi (i:=i) h hn hi fun w1 h1' kp=>?_
 exact Ry (i:=i) (p:=p) (L:=L) (rows:=rows) h1' (hG.up kp) hi hcp hcq hca hL hlf (hx.up kp) o2 ho ho1 rfl hmv QS hk hE hs hc hq hm hw hW hok h1 h2 h3 h4
theorem ay6{c:Nat->Cm}(hi:i<8){a b:A}(ha:c i=jG a)(hc:aV 34 [a] (.d b)):
  vC Tryz.prog gTab 11 0 (jQ 0 n c) [.v (.int .i64 (i:Nat))] (.d b) (jQ 0 n c):=by
 refine R4 fun D w r vs B t av h hG hA=>?_
 obtain rfl:=bq2 hA
 obtain⟨ps,bs,po,ap,h1,h2,h3,h4⟩:=Iy h.len
 have hb0:aM w r (WL n 0 ps bs po ap).toArray t:=by rw[<-h4];exact h.blk
 have hd:=h.RQ (j:=i) (by omega) ha
 have hv:ps[i]?=some (vs.getD i undef):=by
  rw[h3,yGd,List.getElem?_append_left (by omega),yGe (by omega)];rfl
 refine(Gw w r t n ps bs po ap i hi _ hv hb0 (fun v w2=>RA (fun z=>D z\/w.heap.size<=z) w2 b v/\WQ D w2 r 1 n c vs B t/\gY D w r B D w2 B) fun w1 hb1 hg1=>?_).mono ?_
 ·have hq1:WQ D w1 r 1 n c vs B t:=h.mu (by rw[h4];exact hb1) hg1
  have s1:gY D w r B D w1 B:=.own hg1 fun z hz=>(h.dat z hz).1
  refine(hc D w1 [vs.getD i undef] (hG.up s1.k) (.cons (hd.up s1.k) .nil)).mono ?_
  rintro e w2 ⟨v',rfl,k1,k2⟩
  exact⟨v',rfl,⟨RA.up (dw fun z hz=>hz.imp id (yLt hg1.size)) k1,hq1.keep k2,s1.trans (.below k2)⟩,k2⟩
 ·rintro e w' ⟨v,w2,rfl,⟨k1,k2,k3⟩,rfl,hb2,hg2⟩
  have hb3:aM (w2.setCell ⟨r,1,none⟩ (.int .i32 0)) r (vF n 0 vs).toArray t:=(k2.blk.set 1 _).copy Iw
  have hg3:w2.grownBy (w2.setCell ⟨r,1,none⟩ (.int .i32 0)) (some r):=ay (bH w2 _) 1 _
  have k4:=k2.mu hb3 hg3
  have hr:=h.blk.lt
  have hnew:∀z,D z\/w.heap.size<=z->D z\/(z≠r/\∀j,j<18->z∉B j):=fun z hz=>hz.imp id fun hz=>⟨by omega,fun j hj hm=>by have:=h.lt hj hm;omega⟩
  have s4:=k3.trans (gY.own hg3 fun z hz=>(k2.dat z hz).1)
  refine⟨v,fun z=>D z\/w.heap.size<=z,vs,B,t,rfl,k4.wide (fun z hz=>.inl hz) hnew,⟨⟨s4.k.1,fun z hz hd=>⟨.inl hd,(s4.k.2 z hz hd).2⟩⟩,s4.g,s4.b,fun z hz=>hz⟩,?_⟩
  refine RA.up (S:=fun z=>D z\/w.heap.size<=z) ⟨hg3.size,fun z hz hd=>⟨hd,fun o=>World.cell?_of_block (hg3.block z hz fun e=>?_)⟩⟩ k1
  cases e
  rcases hd with e|e
  ·exact(h.dat _ e).1 rfl
  ·omega
structure eU(f:FuncId)(pos:Nat)(p:OP)(args:List A)(K:bC->OP->Prop):Prop where
 out:∃r p',vC Tryz.prog gTab f pos p args r p'/\K r p'
theorem Fa(f:FuncId):∀pos p args K,eU f pos p args K->∃r p',vC Tryz.prog gTab f pos p args r p'/\K r p':=fun _ _ _ _ h=>h.out
theorem eU.mk'{pos:Nat}{p p':OP}{args:List A}{r:bC}{K:bC->OP->Prop}(h:vC Tryz.prog gTab f pos p args r p')(k:K r p'):eU f pos p args K:=⟨r,p',h,k⟩
end
end Go.Proofs.YtegalalmamofdaaGreatDoor
