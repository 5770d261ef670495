/- -/
import Derived.Test.YtegalalmamofdaaGreatDoorJ1
import Derived.Maps.AppendAt
import Derived.Laws.CopyRow
namespace Go.Proofs.YtegalalmamofdaaGreatDoor
set_option linter.all false
set_option maxRecDepth 100000
open Go.RowKit
variable{cs:List Value}{F:List Nat}{r n base:Nat}{v:Value}{w w':World}{S S' D D':Nat->Prop}{ρ ρ':Nat->Option Value}{G:Nat->Option (List Seg)}{l:List Seg}{K:List Seg->Prop}
section
section
variable {S S' : Nat -> Prop} {w w' : World}
def Seg.over(s:Seg)(off:Nat)(x:Seg):Option Seg:=
 match s,x with
 | .ints k n zs,.ints k' m ys=>if k=k' then some (.ints k n (zs.take off++(ys++zs.drop (off+m))))else none
 | .bytes n bs,.bytes m ys=>some (.bytes n (bs.take off++(ys++bs.drop (off+m))))
 | .bools n bs,.bools m ys=>some (.bools n (bs.take off++(ys++bs.drop (off+m))))
 | .gen n l,.gen m ys=>some (.gen n (l.take off++(ys++l.drop (off+m))))
 |_,_=>none
def Seg.zM(s:Seg)(i:Nat)(a:A)(K:Seg->Prop):Prop:=
 match s with
 | .ints k n zs=>(match a with| .v (.int k' z)=>k'=k/\K (.ints k n (zs.set i z))|_=>False)
 | .bytes n bs=>(match a with| .v (.int k' z)=>k'=.u8/\0<=z/\z<256/\K (.bytes n (bs.set i (UInt8.ofNat z.toNat)))|_=>False)
 | .bools n bs=>(match a with| .v (.bool b)=>K (.bools n (bs.set i b))|_=>False)
 | .gen n l=>(match a with| .v x=>x.oneCell'=true/\K (.gen n (l.set i (.v x)))| .row m r=>K (.gen n (l.set i (.row m r)))| .ref r o=>K (.gen n (l.set i (.ref r o)))| .sref r o=>K (.gen n (l.set i (.sref r o)))| .recs m z f=>K (.gen n (l.set i (.recs m z f)))|_=>False)
theorem RG.append:∀{l m:List A} {cs ds:List Value},RG S w l cs->RG S w m ds->RG S w (l++m) (cs++ds)
 |_,_,_,_,.nil,k=>k
 |_,_,_,_,.cons h h1 r,k=>.cons h h1 (r.append k)
theorem RG.drop:∀{l:List A} {cs:List Value},RG S w l cs->∀n,RG S w (l.drop n) (cs.drop n)
 |_,_,.nil,n=>by simp;exact .nil
 |_,_,.cons h h1 r,0=>.cons h h1 r
 |_,_,.cons h h1 r,n+1=>by simpa using r.drop n
theorem RG.take:∀{l:List A} {cs:List Value},RG S w l cs->∀n,RG S w (l.take n) (cs.take n)
 |_,_,.nil,n=>by simp;exact .nil
 |_,_,.cons h h1 r,0=>by simp;exact .nil
 |_,_,.cons h h1 r,n+1=>by simpa using .cons h h1 (r.take n)
theorem RG.set:∀{l:List A} {cs:List Value},RG S w l cs->∀(i:Nat) {a:A} {v:Value},RA S w a v->v.oneCell'=true->RG S w (l.set i a) (cs.set i v)
 |_,_,.nil,i,_,_,_,_=>by simp;exact .nil
 |_,_,.cons h h1 r,0,_,_,k,k1=>by simpa using .cons k k1 r
 |_,_,.cons h h1 r,i+1,_,_,k,k1=>by simpa using .cons h h1 (r.set i k k1)
theorem RL.over{s x s':Seg}{cs vs:List Value}(h:RL S w [s] cs)(kx:RL S w [x] vs)(off:Nat)(e:s.over off x=some s')(hn:off+x.n<=s.n):
  RL S w [s'] (cs.take off++(vs++cs.drop (off+vs.length)))/\s'.n=s.n:=by
 cases s<;>cases x<;>simp only[Seg.over,reduceCtorEq]at e
 case ints.ints k n zs k' m ys=>
  by_cases hk:k=k'
  ·rw[if_pos hk]at e;cases e;subst hk
   obtain⟨h1,rfl⟩:=h.fB
   obtain⟨h2,rfl⟩:=kx.fB
   simp only[Seg.n]at hn
   exact⟨.fI (by simp;omega) (by simp[h2,List.map_take,List.map_drop]),rfl⟩
  ·rw[if_neg hk]at e;cases e
 case bytes.bytes n bs m ys=>
  cases e
  obtain⟨h1,rfl⟩:=h.iZ
  obtain⟨h2,rfl⟩:=kx.iZ
  simp only[Seg.n]at hn
  exact⟨.ofBytes (by simp;omega) (by simp[HL,h2,List.map_take,List.map_drop]),rfl⟩
 case bools.bools n bs m ys=>
  cases e
  obtain⟨h1,rfl⟩:=h.rY
  obtain⟨h2,rfl⟩:=kx.rY
  simp only[Seg.n]at hn
  exact⟨.yg (by simp;omega) (by simp[h2,List.map_take,List.map_drop]),rfl⟩
 case gen.gen n l m ys=>
  cases e
  obtain⟨h1,g⟩:=h.gB
  obtain⟨h2,g2⟩:=kx.gB
  simp only[Seg.n]at hn
  refine⟨.iL (by simp;omega) ?_,rfl⟩
  have:=(g.take off).append (g2.append (g.drop (off+m)))
  rw[show vs.length=m by rw[g2.len,h2]]
  exact this
theorem Xb{z:Int}(h0:0<=z)(h1:z<256):Bt (UInt8.ofNat z.toNat)=z:=by
 unfold Bt
 rw[UInt8.toNat_ofNat']
 omega
def put : List Seg -> Nat -> List Seg -> Option (List Seg)
  | l, _, [] => some l
  | [], _, _ :: _ => none
  | s :: l, base, x :: new =>
    if s.n <= base then (put l (base - s.n) (x :: new)).map (s :: ·)
    else if base = 0 /\ x.n = s.n then (put l 0 new).map (x :: ·)
    else match new with
      | [] => if base + x.n <= s.n then (s.over base x).map (· :: l) else none
      | _ :: _ => none
theorem RL.put:∀{l:List Seg} {cs:List Value} {base:Nat} {new:List Seg} {vs:List Value} {l':List Seg},RL S w l cs->RL S w new vs->put l base new=some l'->
  RL S w l' (cs.take base++(vs++cs.drop (base+vs.length)))/\(base+vs.length<=cs.length\/vs=[])
 |l,cs,base,[],vs,l',h,k,e=>by
  cases k.qb
  simp only[Go.Proofs.YtegalalmamofdaaGreatDoor.put]at e;cases e
  exact⟨by simpa using h,.inr rfl⟩
 |[],cs,base,x::new,vs,l',h,k,e=>by simp[Go.Proofs.YtegalalmamofdaaGreatDoor.put]at e
 |s::l,cs,base,x::new,vs,l',h,k,e=>by
  unfold Go.Proofs.YtegalalmamofdaaGreatDoor.put at e
  obtain⟨c,d,rfl,h1,h2,h3⟩:=h.head
  by_cases hs:s.n<=base
  ·rw[if_pos hs]at e
   cases hq:Go.Proofs.YtegalalmamofdaaGreatDoor.put l (base-s.n) (x::new)with
   |none=>rw[hq]at e;cases e
   |some m=>
    rw[hq]at e;cases e
    obtain⟨k1,k2⟩:=h2.put k hq
    refine⟨?_,by rcases k2 with k2|k2;left;simp;omega;exact .inr k2⟩
    have:=h1.append k1
    rw[List.take_append,List.take_of_length_le (by omega),List.append_assoc,h3,List.drop_append,List.drop_of_length_le (by omega),List.nil_append,h3,show base+vs.length-s.n=base-s.n+vs.length by omega]
    simpa using this
  rw[if_neg hs]at e
  by_cases hz:base=0/\x.n=s.n
  ·rw[if_pos hz]at e
   obtain⟨rfl,hx⟩:=hz
   obtain⟨c2,d2,rfl,k1,k2,k3⟩:=k.head
   cases hq:Go.Proofs.YtegalalmamofdaaGreatDoor.put l 0 new with
   |none=>rw[hq]at e;cases e
   |some m=>
    rw[hq]at e;cases e
    obtain⟨k4,k5⟩:=h2.put k2 hq
    refine⟨?_,.inl ?_⟩
    ·have:=k1.append k4
     simp only[List.take_zero,List.nil_append,Nat.zero_add]at this ⊢
     rw[List.length_append,List.drop_append,List.drop_of_length_le (by omega),List.nil_append,h3,show c2.length+d2.length-s.n=d2.length by omega,List.append_assoc]
     simpa using this
    ·rcases k5 with k5|k5
     ·simp;omega
     ·subst k5;simp;omega
  rw[if_neg hz]at e
  cases new with
  |cons y new=>simp at e
  |nil=>
   simp only at e
   by_cases ho:base+x.n<=s.n
   ·rw[if_pos ho]at e
    cases hq:s.over base x with
    |none=>rw[hq]at e;cases e
    |some s'=>
     rw[hq]at e;cases e
     have hl:vs.length=x.n:=by have:=k.len;simpa[dM]using this
     obtain⟨k1,k2⟩:=h1.over k base hq ho
     refine⟨?_,.inl (by simp;omega)⟩
     have:=k1.append h2
     rw[List.take_append_of_le_length (by omega),List.drop_append_of_le_length (by omega)]
     simpa using this
   ·rw[if_neg ho]at e;cases e
end
inductive Pt where
 |dat(a:A)
 |own(b n:Nat)
 |win(b base n:Nat)
def Pt.refs:Pt->List Nat
 | .dat _=>[]
 | .own b _| .win b _ _=>[b]
inductive T where
 |d(a:A)
 |ptr(b base:Nat)
 |xg(b base rel:Nat)
 |own(b n:Nat)
 |win(b base n:Nat)
 |BX(b n off:Nat)
 |pre(b n m:Nat)
 |yE(l:List A)
 |rows(l:List Pt)
 |ob(b:Nat)
 |hsl(b n:Nat)
 |NC(b c:Nat)
 |mp(b:Nat)
 |au
def T.refs:T->List Nat
 | .ptr b _| .xg b _ _| .own b _| .win b _ _| .BX b _ _| .pre b _ _=>[b]
 | .rows l=>l.flatMap Pt.refs
 | .ob b=>[b]
 | .mp b=>[b]
 | .hsl b _=>[b]
 | .NC b c=>[b,c]
 |_=>[]
def qV(F:List Nat):Value:=.tuple (F.map fun q=>Value.pointer (some ⟨q,0,none⟩)).toArray
def Rl:Value->Nat->Prop
 | .pointer (some a),r=>a.block=r
 | .slice (some a) _ _,r=>a.block=r
 | .tuple l,r=>Value.pointer (some ⟨r,0,none⟩)∈l.toList\/∃a n c,Value.slice (some a) n c∈l.toList/\a.block=r
 |_,_=>False
theorem iT:Rl (qV F) r↔r∈F:=by simp[Rl,qV]
theorem uZ(h:∃ad n c,v=Value.slice ad n c):Rl v r↔v.ownBlock=some r:=by
 obtain⟨ad,n,c,rfl⟩:=h
 cases ad<;>simp[Rl,Value.ownBlock]
theorem FI{r r':Nat}{F F':List Nat}(h:qV (r::F)=qV (r'::F')):r=r':=by
 unfold qV at h
 simp at h
 exact h.1
def vY(r:Nat)(su:Value):Value:=.tuple #[.pointer (some ⟨r,0,none⟩),su]
theorem pz{r q:Nat}{su:Value}(h:∃ad n c,su=Value.slice ad n c):Rl (vY r su) q↔r=q\/Rl su q:=by
 obtain⟨ad,n,c,rfl⟩:=h
 constructor
 ·rintro(h|⟨a,n',c',h,e⟩)
  ·simp[vY]at h;exact .inl h.symm
  ·simp[vY]at h
   obtain⟨rfl,rfl,rfl⟩:=h
   exact .inr e
 ·rintro(rfl|h)
  ·exact .inl (by simp[vY])
  ·cases ad with
   |none=>exact h.elim
   |some a=>exact .inr ⟨a,n,c,by simp[vY],h⟩
theorem EJ{r r':Nat}{su su':Value}(h:vY r su=vY r' su'):r=r'/\su=su':=by
 simp[vY]at h;exact h
theorem kE{su:Value}:(∀a,vY r su≠ .pointer a)/\∀a n c,vY r su≠ .slice a n c:=by
 constructor
 ·intro a h;cases h
 ·intro a n c h;cases h
theorem EI{ad:Option Addr}{n c:Nat}:vY r (.slice ad n c)≠qV F:=by
 intro h
 unfold vY qV at h
 have h:=congrArg (fun v=>match v with|Value.tuple l=>l.toList|_=>[]) h
 simp only at h
 rcases F with _|⟨x,_|⟨y,F⟩⟩<;>simp at h
def Root(u:Value)(r:Nat):Prop:=u=.pointer (some ⟨r,0,none⟩)\/∃ad n c,u=vY r (.slice ad n c)
theorem Root.ptr{q r:Nat}(h:Root (.pointer (some ⟨q,0,none⟩)) r):q=r:=by
 rcases h with h|⟨_,_,_,h⟩
 ·cases h;rfl
 ·exact(kE.1 _ h.symm).elim
theorem Root.vY{q r:Nat}{su:Value}(h:Root (Go.Proofs.YtegalalmamofdaaGreatDoor.vY q su) r):q=r:=by
 rcases h with h|⟨_,_,_,h⟩
 ·exact(kE.1 _ h).elim
 ·exact(EJ h).1
theorem Root.slice{a:Option Addr}{n c r:Nat}(h:Root (.slice a n c) r):False:=by
 rcases h with h|⟨_,_,_,h⟩
 ·cases h
 ·exact kE.2 _ _ _ h.symm
theorem Root.qV(h:Root (Go.Proofs.YtegalalmamofdaaGreatDoor.qV F) r):False:=by
 rcases h with h|⟨_,_,_,h⟩
 ·cases h
 ·exact EI h.symm
theorem mV:(∀a,qV F≠ .pointer a)/\∀a n c,qV F≠ .slice a n c:=by
 constructor
 ·intro a h;cases h
 ·intro a n c h;cases h
def hres(w:World)(F:List Nat):Nat->Option Obj:=fun q=>if q∈F then w.heap[q]? else none
theorem VF(h:∀q∈F,w'.heap[q]?=w.heap[q]?):hres w' F=hres w F:=by
 funext q;unfold hres;split
 ·next hq=>exact h q hq
 ·rfl
structure OP where
 p:(Nat->Prop)->World->List Nat->Nat->Prop
 up:∀{D D':Nat->Prop} {w w':World} {F:List Nat} {r:Nat},Keeps D w D' w'->(∀q∈F,w'.heap[q]?=w.heap[q]?)->p D w F r->p D' w' F r
def OP.of(p:(Nat->Option Obj)->Nat->Prop):OP:=⟨fun _ w F r=>p (hres w F) r,fun _ e h=>by rw[VF e];exact h⟩
inductive Bk where
 |var(l:List Seg)
 |sl(e:TypeId)(sz n:Nat)(l:List Seg)
 |obj(p:List Value->TypeId->Prop)
 |abs(p:OP)
 |vh(l:List Seg)(off:Nat)(p:Bool)(e:TypeId)(sz n:Nat)(m:List Seg)
 |gone
 |bx
def cu3(ρ:Nat->Option Value)(r:Nat):Prop:=∀b u,ρ b=some u->¬Rl u r
def Dt(S:Nat->Prop)(base:Nat)(ρ:Nat->Option Value)(r:Nat):Prop:=(S r\/base<=r)/\cu3 ρ r
inductive mH(S:Nat->Prop)(w:World):List A->List Value->Prop
 |nil:mH S w [] []
 |cons {a:A} {v:Value} {jq:List A} {vs:List Value} (h:RA S w a v) (r:mH S w jq vs):mH S w (a::jq) (v::vs)
theorem mH.up(k:Keeps S w S' w'):∀{l:List A} {vs:List Value},mH S w l vs->mH S' w' l vs
 |_,_,.nil=>.nil
 |_,_,.cons h r=>.cons (h.up k) (r.up k)
def RP(D:Nat->Prop)(ρ:Nat->Option Value)(w:World):Pt->Value->Prop
 | .dat a,v=>RA D w a v
 | .own b n,v=>∀u,ρ b=some u->∃a n' c,u=.slice a n' c/\n<=n'/\(n=n'->v=u)
 | .win b base n,v=>∀u,ρ b=some u->∃r c,Root u r/\v=.slice (some ⟨r,base,none⟩) n c/\n<=c/\c<=maxLen
inductive QM(D:Nat->Prop)(ρ:Nat->Option Value)(w:World):List Pt->List Value->Prop
 |nil:QM D ρ w [] []
 |cons {p:Pt} {v:Value} {ps:List Pt} {vs:List Value} (h:RP D ρ w p v) (r:QM D ρ w ps vs):QM D ρ w (p::ps) (v::vs)
theorem QM.map:∀{l:List Pt} {vs:List Value},(∀p∈l,∀v,RP D ρ w p v->RP D' ρ' w' p v)->QM D ρ w l vs->QM D' ρ' w' l vs
 |_,_,_,.nil=>.nil
 |_,_,f,.cons h r=>.cons (f _ (by simp) _ h) (r.map fun p hp=>f p (by simp[hp]))
theorem QM.len:∀{l:List Pt} {vs:List Value},QM D ρ w l vs->vs.length=l.length
 |_,_,.nil=>rfl
 |_,_,.cons h r=>by simp[r.len]
def K4(D:Nat->Prop)(w:World)(vs:List Value)(v:Value):Prop:=
 ∃r,v=.slice (some ⟨r,0,none⟩) vs.length vs.length/\vs≠[]/\vs.length<=maxLen/\D r/\r<w.heap.size/\∀(i:Nat) (h:i<vs.length),w.cell? ⟨r,i,none⟩=some vs[i]
theorem K4.up{vs:List Value}(k:Keeps D w D' w')(h:K4 D w vs v):K4 D' w' vs v:=by
 obtain⟨r,h1,h2,h3,h4,h5,h6⟩:=h
 exact⟨r,h1,h2,h3,(k.2 r h5 h4).1,Nat.lt_of_lt_of_le h5 k.1,fun i hi=>((k.2 r h5 h4).2 _).trans (h6 i hi)⟩
theorem RP.up(k:Keeps D w D' w'){p:Pt}(hr:∀b∈p.refs,ρ' b=ρ b)(h:RP D ρ w p v):RP D' ρ' w' p v:=by
 cases p with
 |dat a=>exact RA.up k h
 |own b n=>intro u hu;rw[hr b (by simp[Pt.refs])]at hu;exact h u hu
 |win b base n=>intro u hu;rw[hr b (by simp[Pt.refs])]at hu;exact h u hu
def RT(D:Nat->Prop)(ρ:Nat->Option Value)(w:World):T->Value->Prop
 | .d a,v=>RA D w a v
 | .ptr b base,v=>∀u,ρ b=some u->∃r,Root u r/\v=.pointer (some ⟨r,base,none⟩)
 | .xg b base rel,v=>∀u,ρ b=some u->∃r,Root u r/\v=.pointer (some ⟨r,base+rel,none⟩)
 | .own b n,v=>∀u,ρ b=some u->∃a n' c,u=.slice a n' c/\n<=n'/\(n=n'->v=u)
 | .win b base n,v=>∀u,ρ b=some u->∃r c,Root u r/\v=.slice (some ⟨r,base,none⟩) n c/\n<=c/\c<=maxLen
 | .BX b n off,v=>∀u,ρ b=some u->∃a n' c,u=.slice a n' c/\n<=n'/\(n=n'->∃r,a=some ⟨r,0,none⟩/\v=.pointer (some ⟨r,off,none⟩))
 | .pre b n m,v=>∀u,ρ b=some u->∃a n' c,u=.slice a n' c/\m<=n'/\(m=n'->v=.slice (if c=0 then a else a.map (·.add 0)) n c)
 | .yE l,v=>∃vs,v=.tuple vs.toArray/\mH D w l vs
 | .rows l,v=>∃vs,QM D ρ w l vs/\K4 D w vs v
 | .ob b,v=>∀u,ρ b=some u->∃r F,u=qV (r::F)/\v=.pointer (some ⟨r,0,none⟩)
 | .hsl b n,v=>∀u,ρ b=some u->(∃r a n' c,u=vY r (.slice a n' c)/\n<=n'/\(n=n'->v=.slice a n' c))\/∃r,u=.pointer (some ⟨r,0,none⟩)
 | .NC b _,v=>∀u,ρ b=some u->∃r,Root u r/\v=.pointer (some ⟨r,0,none⟩)
 | .mp b,v=>∀u,ρ b=some u->∃r F,u=qV (r::F)/\v=.map (some r)
 | .au,_=>True
def RB(base:Nat)(D:Nat->Prop)(ρ:Nat->Option Value)(w:World)(b:Nat):Option Bk->Prop
 |none=>ρ b=none
 |some (.var l)=>∃r cs t,ρ b=some (.pointer (some ⟨r,0,none⟩))/\True/\w.heap[r]?=some (.cells (List.toArray cs) t (0,0))/\RL D w l cs
 |some (.sl e sz n l)=>∃u cs,ρ b=some u/\w.ownsRow base e sz u n cs/\RL D w l cs
 |some (.obj p)=>∃r cs t,ρ b=some (.pointer (some ⟨r,0,none⟩))/\True/\w.heap[r]?=some (.cells (List.toArray cs) t (0,0))/\p cs t
 |some (.abs p)=>∃r F,ρ b=some (qV (r::F))/\(∀q∈r::F,q<w.heap.size)/\p.p D w (r::F) r
 |some (.vh l off p e sz n m)=>∃r cs t su ms,ρ b=some (vY r su)/\w.heap[r]?=some (.cells (List.toArray cs) t (0,0))/\¬Rl su r/\w.ownsRow base e sz su n ms/\RL D w m ms/\RL D w l (cs.set off (.slice none 0 0))/\off<cs.length/\(p=true->cs[off]?=some su)
 |some .gone=>∃n,ρ b=some (.slice none n 0)
 |some .bx=>b≠0/\∃q r t,ρ b=some (.pointer (some ⟨r,0,none⟩))/\w.heap[r]?=some (.cells #[.pointer (some ⟨q,0,none⟩)] t (0,0))/\ρ 0=some (.pointer (some ⟨q,0,none⟩))
theorem RT.up(k:Keeps D w D' w'){t:T}(hr:∀b∈t.refs,ρ' b=ρ b)(h:RT D ρ w t v):RT D' ρ' w' t v:=by
 cases t with
 |d a=>exact RA.up k h
 |yE l=>obtain⟨vs,rfl,h⟩:=h;exact⟨vs,rfl,h.up k⟩
 |rows l=>obtain⟨vs,h1,h2⟩:=h;exact⟨vs,h1.map fun p hp v hv=>hv.up k fun b hb=>hr b (by simp only[T.refs,List.mem_flatMap];exact⟨p,hp,hb⟩),h2.up k⟩
 |au=>trivial
 |ptr b base=>intro u hu;rw[hr b (by simp[T.refs])]at hu;exact h u hu
 |xg b base rel=>intro u hu;rw[hr b (by simp[T.refs])]at hu;exact h u hu
 |own b n=>intro u hu;rw[hr b (by simp[T.refs])]at hu;exact h u hu
 |win b base n=>intro u hu;rw[hr b (by simp[T.refs])]at hu;exact h u hu
 |BX b n off=>intro u hu;rw[hr b (by simp[T.refs])]at hu;exact h u hu
 |pre b n m=>intro u hu;rw[hr b (by simp[T.refs])]at hu;exact h u hu
 |ob b=>intro u hu;rw[hr b (by simp[T.refs])]at hu;exact h u hu
 |mp b=>intro u hu;rw[hr b (by simp[T.refs])]at hu;exact h u hu
 |hsl b n=>intro u hu;rw[hr b (by simp[T.refs])]at hu;exact h u hu
 |NC b c=>intro u hu;rw[hr b (by simp[T.refs])]at hu;exact h u hu
theorem ownsRow_form{e:TypeId}{sz n:Nat}{u:Value}(h:w.ownsRow base e sz u n cs):∃ad c,u=.slice ad n c:=by
 rcases h.2 with⟨e1,e2⟩|⟨q,cap,cur,e1,_⟩
 ·exact⟨_,_,by rw[e1,e2]⟩
 ·exact⟨_,_,e1⟩
theorem iM{e:TypeId}{sz n:Nat}{u:Value}(h:w.ownsRow base e sz u n cs){q:Nat}(hq:Rl u q):base<=q/\q<w.heap.size:=by
 rcases h.2 with⟨e1,e2⟩|⟨q',cap,cur,e1,e3,e4,_⟩
 ·rw[e1]at hq;cases hq
 ·rw[e1]at hq;cases hq
  exact⟨e3,(Array.getElem?_eq_some_iff.1 e4).1⟩
theorem lX{e:TypeId}{sz n:Nat}{u:Value}(h:w.ownsRow base e sz u n cs)(k:∀q,Rl u q->w'.heap[q]?=w.heap[q]?):w'.ownsRow base e sz u n cs:=by
 refine⟨h.1,?_⟩
 rcases h.2 with h4|⟨r,cap,cur,rfl,h5,h6,h7⟩
 ·exact .inl h4
 ·exact .inr ⟨r,cap,cur,rfl,h5,(k r rfl).trans h6,h7⟩
structure St where
 t:List T
 h:List (Option Bk)
def St.bk(s:St)(b:Nat):Option Bk:=s.h.getD b none
def St.sl(s:St)(i:Nat):T:=s.t.getD i .au
structure W0(G:Nat->Option (List Seg)) where
 w:World
 X:Nat->Prop
 pin:Option Nat:=none
 defs:List Deferred:=[]
structure vR(B:Nat)(X:Nat->Prop)(w w':World):Prop where
 os:w'.os=w.os
 tape:w'.tape=w.tape
 output:w'.output=w.output
 size:w.heap.size<=w'.heap.size
 block:∀k,k<B->¬X k->w'.heap[k]?=w.heap[k]?
theorem vR.refl(B:Nat)(X:Nat->Prop)(w:World):vR B X w w:=⟨rfl,rfl,rfl,Nat.le_refl _,fun _ _ _=>rfl⟩
theorem vR.grown{B:Nat}{X:Nat->Prop}{a w w':World}{row:Option Nat}(h:vR B X a w)(hg:w.grownBy w' row)(hB:B<=w.heap.size)(hr:∀k,row=some k->B<=k\/X k):vR B X a w':=
 ⟨hg.os.trans h.os,hg.tape.trans h.tape,hg.output.trans h.output,Nat.le_trans h.size hg.size,fun k hk hx=>(hg.block k (by omega) (fun e=>by rcases hr k e.symm with h1|h1;omega;exact hx h1)).trans (h.block k hk hx)⟩
structure bX(X:Nat->Prop)(w w':World):Prop where
 os:w'.os=w.os
 tape:w'.tape=w.tape
 output:w'.output=w.output
 size:w.heap.size<=w'.heap.size
 block:∀k,k<w.heap.size->¬X k->w'.heap[k]?=w.heap[k]?
theorem bX.of{row:Option Nat}(h:w.grownBy w' row):bX (fun k=>row=some k) w w':=⟨h.os,h.tape,h.output,h.size,fun k hk hn=>h.block k hk (fun e=>hn e.symm)⟩
theorem vR.an3{B:Nat}{X Y:Nat->Prop}{a w w':World}(h:vR B X a w)(hg:bX Y w w')(hB:B<=w.heap.size)(hr:∀k,Y k->B<=k\/X k):vR B X a w':=
 ⟨hg.os.trans h.os,hg.tape.trans h.tape,hg.output.trans h.output,Nat.le_trans h.size hg.size,fun k hk hx=>(hg.block k (by omega) (fun e=>by rcases hr k e with h1|h1;omega;exact hx h1)).trans (h.block k hk hx)⟩
theorem vR.below{B:Nat}{X:Nat->Prop}(h:vR B X w w')(hX:∀r,¬X r):Below B w w':=⟨h.os,h.tape,h.output,h.size,fun k hk=>h.block k hk (hX k)⟩
def pI(G:Nat->Option (List Seg))(S:Nat->Prop)(w:World):Prop:=∀q l,G q=some l->∃cs,RL S w l cs/\Ni S w (some ⟨q,0,none⟩) cs
theorem pI.up(k:Keeps S w S' w')(h:pI G S w):pI G S' w':=fun q l e=>by
 obtain⟨cs,h1,h2⟩:=h q l e
 exact⟨cs,h1.up k,h2.up k⟩
structure Good{G:Nat->Option (List Seg)}(S:Nat->Prop)(base:Nat)(w0:W0 G)(s:St)(ρ:Nat->Option Value)(a:Act)(w:World):Prop where
 len:s.t.length=a.tmps.size
 t:∀i,i<a.tmps.size->RT (Dt S base ρ) ρ w (s.sl i) (a.tmps.getD i undef)
 b:∀i,RB base (Dt S base ρ) ρ w i (s.bk i)
 ru:∀i,∀b∈(s.sl i).refs,s.bk b≠none
 inj:∀b b' u u' r,ρ b=some u->ρ b'=some u'->Rl u r->Rl u' r->b=b'
 low:∀b u r,ρ b=some u->Rl u r->(base<=r\/w0.X r)/\r<w.heap.size
 iE:vR base w0.X w0.w w
 glob:pI G (Dt S base ρ) w
 pin:∀q,w0.pin=some q->ρ 0=some (.pointer (some ⟨q,0,none⟩))
 size:base<=w.heap.size
 defs:a.defers=w0.defs
theorem aB{α:Type}(l:List α)(i:Nat)(x d:α)(j:Nat):(l.set i x).getD j d=if i=j/\i<l.length then x else l.getD j d:=by
 simp only[List.getD_eq_getElem?_getD,List.getElem?_set]
 by_cases h:i=j
 ·subst h
  by_cases h2:i<l.length
  ·simp[h2]
  ·simp[h2]
 ·simp[h]
theorem Good.put{w0:W0 G}{s:St}{a:Act}(g:Good S base w0 s ρ a w)(d:Nat){t:T}
  (h:RT (Dt S base ρ) ρ w t v)(hr:∀b∈t.refs,s.bk b≠none):Good S base w0 ⟨s.t.set d t,s.h⟩ ρ (a.put (some d) v) w:=by
 refine⟨by simp[Act.put,g.len],?_,g.b,?_,g.inj,g.low,g.iE,g.glob,g.pin,g.size,g.defs⟩
 ·intro i hi
  have hi':i<a.tmps.size:=by simpa[Act.put]using hi
  simp only[St.sl,aB]
  by_cases hd:d=i
  ·subst hd
   rw[if_pos ⟨rfl,by rw[g.len];exact hi'⟩]
   simp[Act.put,hi',h]
  ·rw[if_neg (fun e=>hd e.1)]
   have:=g.t i hi'
   simp only[Act.put,Array.getD_eq_getD_getElem?,Array.getElem?_setIfInBounds_ne hd]at this ⊢
   exact this
 ·intro i b hb
  simp only[St.sl,aB]at hb
  split at hb
  ·exact hr b hb
  ·exact g.ru i b hb
theorem Good.put'{w0:W0 G}{s:St}{a:Act}(g:Good S base w0 s ρ a w)(d:Option Nat){t:T}
  (h:RT (Dt S base ρ) ρ w t v)(hr:∀b∈t.refs,s.bk b≠none):Good S base w0 ⟨(match d with|some d=>s.t.set d t|none=>s.t),s.h⟩ ρ (a.put d v) w:=by
 cases d with
 |none=>exact g
 |some d=>exact g.put d h hr
def upd{α:Type}(ρ:Nat->α)(b:Nat)(x:α):Nat->α:=fun i=>if i=b then x else ρ i
theorem Good.step{w0:W0 G}{s:St}{a:Act}(g:Good S base w0 s ρ a w)(ρ':Nat->Option Value)(h':List (Option Bk))(X B:Nat->Prop)
  (hw:bX X w w')(hB:∀b,¬B b->ρ' b=ρ b/\St.bk ⟨s.t,h'⟩ b=s.bk b)(hrow:∀r,X r->∃b u,B b/\ρ b=some u/\Rl u r)
  (hnew:∀b u r,B b->ρ' b=some u->Rl u r->(w.heap.size<=r\/∃u0,ρ b=some u0/\Rl u0 r)/\r<w'.heap.size)
  (hinj:∀b b' u u' r,B b->B b'->ρ' b=some u->ρ' b'=some u'->Rl u r->Rl u' r->b=b')
  (hx:Keeps (Dt S base ρ) w (Dt S base ρ') w'->∀b,B b->RB base (Dt S base ρ') ρ' w' b (St.bk ⟨s.t,h'⟩ b))
  (hs:Keeps (Dt S base ρ) w (Dt S base ρ') w'->∀i,i<a.tmps.size->(∃b,b∈(s.sl i).refs/\B b)->RT (Dt S base ρ') ρ' w' (s.sl i) (a.tmps.getD i undef))
  (hd:∀b,B b->St.bk ⟨s.t,h'⟩ b≠none)(hp:∀q,ρ 0=some (.pointer (some ⟨q,0,none⟩))->ρ' 0=some (.pointer (some ⟨q,0,none⟩))):
  Good S base w0 ⟨s.t,h'⟩ ρ' a w':=by
 have bF7:∀r,X r->base<=r\/w0.X r:=fun r hr=>by obtain⟨b,u,_,h1,h2⟩:=hrow r hr;exact(g.low b u r h1 h2).1
 have K:Keeps (Dt S base ρ) w (Dt S base ρ') w':=by
  refine⟨hw.size,fun r hr hd=>⟨⟨hd.1,fun b u hb hre=>?_⟩,fun o=>?_⟩⟩
  ·by_cases hbb:B b
   ·rcases(hnew b u r hbb hb hre).1 with h1|⟨u2,h1,h2⟩
    ·omega
    ·exact hd.2 b u2 h1 h2
   ·rw[(hB b hbb).1]at hb;exact hd.2 b u hb hre
  ·exact World.cell?_of_block (hw.block r hr (fun e=>by obtain⟨b,u,_,h1,h2⟩:=hrow r e;exact hd.2 b u h1 h2))
 refine⟨g.len,?_,?_,?_,?_,?_,g.iE.an3 hw g.size (fun k hk=>bF7 k hk),g.glob.up K,(fun q hq=>hp q (g.pin q hq)),Nat.le_trans g.size hw.size,g.defs⟩
 ·intro i hi
  show RT _ _ _ (s.sl i) _
  by_cases hm:∃b,b∈(s.sl i).refs/\B b
  ·exact hs K i hi hm
  ·exact(g.t i hi).up K (fun b hb=>(hB b (fun e=>hm ⟨b,hb,e⟩)).1)
 ·intro b
  by_cases hbb:B b
  ·exact hx K b hbb
  ·obtain⟨hu,hk'⟩:=hB b hbb
   rw[hk']
   have hBb:=g.b b
   have out:∀u r,ρ b=some u->Rl u r->w'.heap[r]?=w.heap[r]?:=fun u r h1 h2=>by
    refine hw.block r (g.low b u r h1 h2).2 (fun e=>?_)
    obtain⟨b2,u2,h5,h3,h4⟩:=hrow r e
    exact hbb (by rw[g.inj b b2 u u2 r h1 h3 h2 h4];exact h5)
   cases hk:s.bk b with
   |none=>rw[hk]at hBb;exact hu.trans hBb
   |some y=>
    rw[hk]at hBb
    cases y with
    |var l=>
     obtain⟨r,cs,t,h1,h2,h3,h4⟩:=hBb
     exact⟨r,cs,t,hu.trans h1,h2,(out _ r h1 rfl).trans h3,h4.up K⟩
    |obj p=>
     obtain⟨r,cs,t,h1,h2,h3,h4⟩:=hBb
     exact⟨r,cs,t,hu.trans h1,h2,(out _ r h1 rfl).trans h3,h4⟩
    |abs p=>
     obtain⟨r,F,h1,h2,h3⟩:=hBb
     exact⟨r,F,hu.trans h1,fun q hq=>Nat.lt_of_lt_of_le (h2 q hq) hw.size,p.up K (fun q hq=>out _ q h1 (iT.2 hq)) h3⟩
    |vh l off p e sz n m=>
     obtain⟨r,cs,t,su,ms,h1,h2,h3,h4,h5,h6,h7,h8⟩:=hBb
     obtain⟨ad,c,hf⟩:=ownsRow_form h4
     exact⟨r,cs,t,su,ms,hu.trans h1,(out _ r h1 ((pz ⟨_,_,_,hf⟩).2 (.inl rfl))).trans h2,h3,lX h4 (fun q hq=>out _ q h1 ((pz ⟨_,_,_,hf⟩).2 (.inr hq))),h5.up K,h6.up K,h7,h8⟩
    |gone=>obtain⟨n,h1⟩:=hBb;exact⟨n,hu.trans h1⟩
    |bx=>obtain⟨h0,q,r,t,h1,h2,h3⟩:=hBb;exact⟨h0,q,r,t,hu.trans h1,(out _ r h1 rfl).trans h2,hp q h3⟩
    |sl e sz n l=>
     obtain⟨u,cs,h1,h2,h3⟩:=hBb
     refine⟨u,cs,hu.trans h1,?_,h3.up K⟩
     refine⟨h2.1,?_⟩
     rcases h2.2 with h4|⟨r,cap,cur,rfl,h5,h6,h7⟩
     ·exact .inl h4
     ·exact .inr ⟨r,cap,cur,rfl,h5,(out _ r h1 rfl).trans h6,h7⟩
 ·intro i b hb
  show St.bk ⟨s.t,h'⟩ b≠none
  by_cases hbb:B b
  ·exact hd b hbb
  ·rw[(hB b hbb).2];exact g.ru i b hb
 ·intro b b' u v r h1 h2 h3 h4
  have key:∀b u b' u',¬B b->B b'->ρ' b=some u->ρ' b'=some u'->Rl u r->Rl u' r->False:=by
   intro b u b' u' hb hb' h1 h2 h3 h5
   rw[(hB b hb).1]at h1
   rcases(hnew b' u' r hb' h2 h5).1 with h6|⟨u2,h6,h7⟩
   ·have:=(g.low b u r h1 h3).2;omega
   ·exact hb (by rw[g.inj b b' u u2 r h1 h6 h3 h7];exact hb')
  by_cases e1:B b
  ·by_cases e2:B b'
   ·exact hinj b b' u v r e1 e2 h1 h2 h3 h4
   ·exact(key b' v b u e2 e1 h2 h1 h4 h3).elim
  ·by_cases e2:B b'
   ·exact(key b u b' v e1 e2 h1 h2 h3 h4).elim
   ·rw[(hB b e1).1]at h1;rw[(hB b' e2).1]at h2
    exact g.inj b b' u v r h1 h2 h3 h4
 ·intro b u r h1 h2
  by_cases e1:B b
  ·refine⟨?_,(hnew b u r e1 h1 h2).2⟩
   rcases(hnew b u r e1 h1 h2).1 with h3|⟨u2,h3,h4⟩
   ·exact .inl (Nat.le_trans g.size h3)
   ·exact(g.low b u2 r h3 h4).1
  ·rw[(hB b e1).1]at h1
   have:=g.low b u r h1 h2
   exact⟨this.1,Nat.lt_of_lt_of_le this.2 hw.size⟩
theorem Good.change{w0:W0 G}{s:St}{a:Act}(g:Good S base w0 s ρ a w)(b0:Nat)(hb0:b0<s.h.length)(u':Value)(x:Bk)(row:Option Nat)
  (hw:w.grownBy w' row)(hrow:∀r,row=some r->∃u,ρ b0=some u/\Rl u r)
  (hnew:∀r,Rl u' r->(w.heap.size<=r\/∃u,ρ b0=some u/\Rl u r)/\r<w'.heap.size)
  (hx:Keeps (Dt S base ρ) w (Dt S base (upd ρ b0 (some u'))) w'->RB base (Dt S base (upd ρ b0 (some u'))) (upd ρ b0 (some u')) w' b0 (some x))
  (hs:Keeps (Dt S base ρ) w (Dt S base (upd ρ b0 (some u'))) w'->∀i,i<a.tmps.size->b0∈(s.sl i).refs->RT (Dt S base (upd ρ b0 (some u'))) (upd ρ b0 (some u')) w' (s.sl i) (a.tmps.getD i undef))
  (hp:∀q,ρ b0=some (.pointer (some ⟨q,0,none⟩))->u'=.pointer (some ⟨q,0,none⟩)):
  Good S base w0 ⟨s.t,s.h.set b0 (some x)⟩ (upd ρ b0 (some u')) a w':=by
 have hu:∀b,b≠b0->upd ρ b0 (some u') b=ρ b:=fun b hb=>by simp[upd,hb]
 have hu0:upd ρ b0 (some u') b0=some u':=by simp[upd]
 have hbk0:St.bk ⟨s.t,s.h.set b0 (some x)⟩ b0=some x:=by simp[St.bk,hb0]
 refine g.step (upd ρ b0 (some u')) (s.h.set b0 (some x)) (fun k=>row=some k) (fun b=>b=b0) (.of hw) (fun b hb=>⟨hu b hb,?_⟩) (fun r hr=>?_) (fun b u r hb h1 h2=>?_) (fun b b' _ _ _ h1 h2 _ _ _ _=>h1.trans h2.symm) (fun K b hb=>?_) (fun K i hi hm=>?_) (fun b hb=>?_) (fun q hq=>?_)
 ·simp only[St.bk,aB];rw[if_neg (fun e=>hb e.1.symm)]
 ·obtain⟨u,h1,h2⟩:=hrow r hr;exact⟨b0,u,rfl,h1,h2⟩
 ·subst hb;rw[hu0]at h1;cases h1;exact hnew r h2
 ·subst hb;rw[hbk0];exact hx K
 ·obtain⟨b,h1,rfl⟩:=hm;exact hs K i hi h1
 ·subst hb;rw[hbk0];simp
 ·by_cases e:b0=0
  ·subst e;rw[hu0,hp q hq]
  ·rw[hu 0 (fun e'=>e e'.symm)];exact hq
theorem Good.grow{w0:W0 G}{s:St}{a:Act}(g:Good S base w0 s ρ a w)(hw:w.grownBy w' none):
  Good S base w0 s ρ a w'/\Keeps (Dt S base ρ) w (Dt S base ρ) w':=by
 have K:Keeps (Dt S base ρ) w (Dt S base ρ) w':=⟨hw.size,fun r hr hd=>⟨hd,fun o=>World.cell?_of_block (hw.block r hr (by simp))⟩⟩
 refine⟨⟨g.len,fun i hi=>(g.t i hi).up K (fun _ _=>rfl),fun b=>?_,g.ru,g.inj,fun b u r h1 h2=>⟨(g.low b u r h1 h2).1,Nat.lt_of_lt_of_le (g.low b u r h1 h2).2 hw.size⟩,g.iE.grown hw g.size (fun k hk=>by cases hk),g.glob.up K,g.pin,Nat.le_trans g.size hw.size,g.defs⟩,K⟩
 have hB:=g.b b
 have out:∀u r,ρ b=some u->Rl u r->w'.heap[r]?=w.heap[r]?:=fun u r h1 h2=>hw.block r (g.low b u r h1 h2).2 (by simp)
 cases hk:s.bk b with
 |none=>rw[hk]at hB;exact hB
 |some y=>
  rw[hk]at hB
  cases y with
  |var l=>
   obtain⟨r,cs,t,h1,h2,h3,h4⟩:=hB
   exact⟨r,cs,t,h1,h2,(out _ r h1 rfl).trans h3,h4.up K⟩
  |obj p=>
   obtain⟨r,cs,t,h1,h2,h3,h4⟩:=hB
   exact⟨r,cs,t,h1,h2,(out _ r h1 rfl).trans h3,h4⟩
  |abs p=>
   obtain⟨r,F,h1,h2,h3⟩:=hB
   exact⟨r,F,h1,fun q hq=>Nat.lt_of_lt_of_le (h2 q hq) hw.size,p.up K (fun q hq=>out _ q h1 (iT.2 hq)) h3⟩
  |vh l off p e sz n m=>
   obtain⟨r,cs,t,su,ms,h1,h2,h3,h4,h5,h6,h7,h8⟩:=hB
   obtain⟨ad,c,hf⟩:=ownsRow_form h4
   exact⟨r,cs,t,su,ms,h1,(out _ r h1 ((pz ⟨_,_,_,hf⟩).2 (.inl rfl))).trans h2,h3,lX h4 (fun q hq=>out _ q h1 ((pz ⟨_,_,_,hf⟩).2 (.inr hq))),h5.up K,h6.up K,h7,h8⟩
  |gone=>exact hB
  |bx=>obtain⟨h0,q,r,t,h1,h2,h3⟩:=hB;exact⟨h0,q,r,t,h1,(out _ r h1 rfl).trans h2,h3⟩
  |sl e sz n l=>
   obtain⟨u,cs,h1,h2,h3⟩:=hB
   refine⟨u,cs,h1,⟨h2.1,?_⟩,h3.up K⟩
   rcases h2.2 with h4|⟨r,cap,cur,rfl,h5,h6,h7⟩
   ·exact .inl h4
   ·exact .inr ⟨r,cap,cur,rfl,h5,(out _ r h1 rfl).trans h6,h7⟩
end
section
structure TI where
 sz:Nat
 agg:Bool
 zero:List Seg
 QN:List Nat
 fty:List TypeId
 bY:Nat
 len:Nat
 sl:Bool
 elem:TypeId
 knd:Option IntKind
 bytes:Nat
 eq:Bool
 Ko:List (Nat×Nat)
def lu(P:Program)(t:TypeId):Bool:=match P.underlying t with|some (.struct _)=>true|some (.array _ _)=>true|_=>false
def isInt(k:IntKind)(z:Int):Value->Bool| .int k' z'=>decide (k=k')&&decide (z=z')|_=>false
def Er(b:Bool):Value->Bool| .bool b'=>b==b'|_=>false
def AO:A->Value->Bool
 | .v (.slice none 0 0),.slice none 0 0=>true
 | .v (.pointer none),.pointer none=>true
 | .v (.int k z),.int k' z'=>decide (k=k')&&decide (z=z')
 | .v (.bool b),.bool b'=>b==b'
 | .v (.string s),.string s'=>s.size==0&&s'.size==0
 |_,_=>false
def qz{α:Type}(p:α->Value->Bool):List α->List Value->Option (List Value)
 |[],cs=>some cs
 |_::_,[]=>none
 |a::jq,c::cs=>if p a c then qz p jq cs else none
def tZ:List Seg->List Value->Bool
 |[],cs=>cs.isEmpty
 | .ints k n zs::l,cs=>zs.length==n&&(match qz (isInt k) zs cs with|some r=>tZ l r|none=>false)
 | .bytes n bs::l,cs=>bs.length==n&&(match qz (fun b=>isInt .u8 (Bt b)) bs cs with|some r=>tZ l r|none=>false)
 | .bools n bs::l,cs=>bs.length==n&&(match qz Er bs cs with|some r=>tZ l r|none=>false)
 | .gen n jq::l,cs=>jq.length==n&&(match qz AO jq cs with|some r=>tZ l r|none=>false)
theorem ou{α:Type}{p:α->Value->Bool}:∀{jq:List α} {cs r:List Value},qz p jq cs=some r->∃c,cs=c++r/\c.length=jq.length/\∀i (h:i<jq.length) (h':i<c.length),p jq[i] c[i]=true
 |[],cs,r,h=>by cases h;exact⟨[],rfl,rfl,fun i h=>by simp at h⟩
 |a::jq,[],r,h=>by cases h
 |a::jq,c::cs,r,h=>by
  unfold qz at h
  by_cases hp:p a c=true
  ·rw[if_pos hp]at h
   obtain⟨d,rfl,h2,h3⟩:=ou h
   refine⟨c::d,rfl,by simp[h2],fun i h h'=>?_⟩
   cases i with
   |zero=>exact hp
   |succ i=>exact h3 i (by simpa using h) (by simpa using h')
  ·rw[if_neg hp]at h;cases h
theorem vG{s:ByteArray}(h:s.size=0):s=ByteArray.empty:=by
 obtain⟨⟨l⟩⟩:=s
 cases l with
 |nil=>rfl
 |cons a l=>simp[ByteArray.size]at h
theorem LV{a:A}(h:AO a v=true):a=.v v/\v.oneCell'=true:=by
 unfold AO at h
 split at h<;>first|(cases h;done)|skip
 ·exact⟨rfl,rfl⟩
 ·exact⟨rfl,rfl⟩
 ·simp only[Bool.and_eq_true,decide_eq_true_eq]at h;obtain⟨rfl,rfl⟩:=h;exact⟨rfl,rfl⟩
 ·simp only[beq_iff_eq]at h;subst h;exact⟨rfl,rfl⟩
 ·simp only[Bool.and_eq_true,beq_iff_eq]at h
  rw[vG h.1,vG h.2];exact⟨rfl,rfl⟩
theorem FT{k:IntKind}{z:Int}(h:isInt k z v=true):v=.int k z:=by
 unfold isInt at h
 split at h
 ·simp only[Bool.and_eq_true,decide_eq_true_eq]at h;obtain⟨rfl,rfl⟩:=h;rfl
 ·cases h
theorem LP{b:Bool}(h:Er b v=true):v=.bool b:=by
 unfold Er at h
 split at h
 ·simp only[beq_iff_eq]at h;subst h;rfl
 ·cases h
theorem cZ{S:Nat->Prop}{w:World}:∀{l:List Seg} {cs:List Value},tZ l cs=true->RL S w l cs
 |[],cs,h=>by
  simp only[tZ,List.isEmpty_iff]at h;subst h;exact .nil
 | .ints k n zs::l,cs,h=>by
  simp only[tZ,Bool.and_eq_true,beq_iff_eq]at h
  cases hz:qz (isInt k) zs cs with
  |none=>rw[hz]at h;cases h.2
  |some r=>
   rw[hz]at h
   obtain⟨c,rfl,h2,h3⟩:=ou hz
   have e:c=zs.map (Value.int k):=List.ext_getElem (by simp[h2]) fun i h4 h5=>by simpa using FT (h3 i (by omega) h4)
   subst e
   exact .ints h.1 (cZ h.2)
 | .bytes n bs::l,cs,h=>by
  simp only[tZ,Bool.and_eq_true,beq_iff_eq]at h
  cases hz:qz (fun b=>isInt .u8 (Bt b)) bs cs with
  |none=>rw[hz]at h;cases h.2
  |some r=>
   rw[hz]at h
   obtain⟨c,rfl,h2,h3⟩:=ou hz
   have e:c=HL bs:=List.ext_getElem (by simp[HL,h2]) fun i h4 h5=>by simpa[HL]using FT (h3 i (by omega) h4)
   subst e
   exact .bytes h.1 (cZ h.2)
 | .bools n bs::l,cs,h=>by
  simp only[tZ,Bool.and_eq_true,beq_iff_eq]at h
  cases hz:qz Er bs cs with
  |none=>rw[hz]at h;cases h.2
  |some r=>
   rw[hz]at h
   obtain⟨c,rfl,h2,h3⟩:=ou hz
   have e:c=bs.map Value.bool:=List.ext_getElem (by simp[h2]) fun i h4 h5=>by simpa using LP (h3 i (by omega) h4)
   subst e
   exact .bools h.1 (cZ h.2)
 | .gen n jq::l,cs,h=>by
  simp only[tZ,Bool.and_eq_true,beq_iff_eq]at h
  cases hz:qz AO jq cs with
  |none=>rw[hz]at h;cases h.2
  |some r=>
   rw[hz]at h
   obtain⟨c,rfl,h2,h3⟩:=ou hz
   have g:∀(jq:List A) (c:List Value),c.length=jq.length->(∀i (h:i<jq.length) (h':i<c.length),AO jq[i] c[i]=true)->RG S w jq c:=by
    intro jq
    induction jq with
    |nil=>intro c h _;rw[List.length_eq_zero_iff.1 h];exact .nil
    |cons a jq ih=>
     intro c h h'
     cases c with
     |nil=>simp at h
     |cons x c=>
      obtain⟨k1,k2⟩:=LV (h' 0 (by simp) (by simp))
      simp only[List.getElem_cons_zero]at k1 k2
      subst k1
      exact .cons (.v x) k2 (ih c (by simpa using h) fun i h1 h2=>h' (i+1) (by simpa using h1) (by simpa using h2))
   exact .gen (g jq c h2 h3) h.1 (cZ h.2)
structure D7(P:Program)(t:TypeId)(i:TI):Prop where
 info:∃f z,P.info? t=some f/\f.size=i.sz/\f.bytes=i.bytes/\f.zero=some z/\tZ i.zero z.cells.toList=true
 und:∃d,P.underlying t=some d
 agg:lu P t=i.agg
 QN:∀(f off:Nat),i.QN[f]?=some off->∃fs x j,P.underlying t=some (.struct fs)/\fs[f]?=some x/\x.offset=off/\i.fty[f]?=some x.type/\P.info? x.type=some j/\j.size≠0
 arr:i.bY≠0->(P.underlying t=some (.array i.len i.elem)\/P.underlying t=some (.slice i.elem))/\∃j,P.info? i.elem=some j/\j.size=i.bY
 QX:i.len≠0->P.underlying t=some (.array i.len i.elem)
 knd:∀k,i.knd=some k->P.underlying t=some (.int k)
 sl:i.sl=true->P.underlying t=some (.slice i.elem)
 Ko:i.agg=true->i.bY=0->∃fs,P.underlying t=some (.struct fs)/\fs.toList.mapM (fun f=>(P.info? f.type).map fun j=>(f.offset,j.size))=some i.Ko
def tyB(P:Program)(t:TypeId)(i:TI):Bool:=
 (match P.info? t with|some f=>f.size==i.sz&&f.bytes==i.bytes&&(match f.zero with|some z=>tZ i.zero z.cells.toList|none=>false)|none=>false)&&
 (P.underlying t).isSome&&(lu P t==i.agg)&&
 ((List.range i.QN.length).all fun f=>match P.underlying t with|some (.struct fs)=>(match fs[f]? with|some x=>some x.offset==i.QN[f]?&&some x.type==i.fty[f]?&&(match P.info? x.type with|some j=>j.size !=0|none=>false)|none=>false)|_=>false)&&
 (i.bY==0||(match P.underlying t with|some (.array n e)=>n==i.len&&e==i.elem|some (.slice e)=>e==i.elem|_=>false)&&(match P.info? i.elem with|some j=>j.size==i.bY|none=>false))&&
 (i.len==0||(match P.underlying t with|some (.array n e)=>n==i.len&&e==i.elem|_=>false))&&
 (match i.knd with|some k=>(match P.underlying t with|some (.int k')=>decide (k=k')|_=>false)|none=>true)&&
 (!i.sl||(match P.underlying t with|some (.slice e)=>e==i.elem|_=>false))&&
 (!i.agg||i.bY !=0||(match P.underlying t with|some (.struct fs)=>decide (fs.toList.mapM (fun f=>(P.info? f.type).map fun j=>(f.offset,j.size))=some i.Ko)|_=>false))
theorem Bu{P:Program}{t:TypeId}{i:TI}(h:tyB P t i=true):D7 P t i:=by
 unfold tyB at h
 simp only[Bool.and_eq_true]at h
 obtain⟨⟨⟨⟨⟨⟨⟨⟨h1,h2⟩,h3⟩,h4⟩,h5⟩,h6⟩,h7⟩,h9⟩,h10⟩:=h
 refine⟨?_,?_,by simpa using h3,?_,?_,?_,?_,?_,?_⟩
 ·split at h1
  ·next f hf=>
   simp only[Bool.and_eq_true,beq_iff_eq]at h1
   obtain⟨⟨k1,k2⟩,k3⟩:=h1
   split at k3
   ·next z hz=>exact⟨f,z,hf,k1,k2,hz,k3⟩
   ·cases k3
  ·cases h1
 ·exact Option.isSome_iff_exists.1 h2
 ·intro f off hf
  have hlt:f<i.QN.length:=(List.getElem?_eq_some_iff.1 hf).1
  have h8:=List.all_eq_true.1 h4 f (List.mem_range.2 hlt)
  split at h8
  ·next fs hu=>
   split at h8
   ·next x hx=>
    simp only[Bool.and_eq_true,beq_iff_eq]at h8
    rw[hf]at h8
    split at h8
    ·next j hj=>exact⟨fs,x,j,hu,hx,by simpa using h8.1.1,h8.1.2.symm,hj,by simpa using h8.2⟩
    ·cases h8.2
   ·cases h8
  ·cases h8
 ·intro he
  simp only[Bool.or_eq_true,beq_iff_eq,he,false_or,Bool.and_eq_true]at h5
  obtain⟨k1,k2⟩:=h5
  refine⟨?_,?_⟩
  ·split at k1
   ·next n e hu=>simp only[Bool.and_eq_true,beq_iff_eq]at k1;obtain⟨rfl,rfl⟩:=k1;exact .inl hu
   ·next e hu=>simp only[beq_iff_eq]at k1;subst k1;exact .inr hu
   ·cases k1
  ·split at k2
   ·next j hj=>exact⟨j,hj,by simpa using k2⟩
   ·cases k2
 ·intro he
  simp only[Bool.or_eq_true,beq_iff_eq,he,false_or]at h6
  split at h6
  ·next n e hu=>simp only[Bool.and_eq_true,beq_iff_eq]at h6;obtain⟨rfl,rfl⟩:=h6;exact hu
  ·cases h6
 ·intro k hk
  rw[hk]at h7
  simp only at h7
  split at h7
  ·next k' hu=>simp only[decide_eq_true_eq]at h7;subst h7;exact hu
  ·cases h7
 ·intro hs
  rw[hs]at h9
  simp only[Bool.not_true,Bool.false_or]at h9
  split at h9
  ·next e hu=>simp only[beq_iff_eq]at h9;subst h9;exact hu
  ·cases h9
 ·intro ha he
  simp only[ha,he,Bool.not_true,Bool.false_or,bne_self_eq_false]at h10
  split at h10
  ·next fs hu=>exact⟨fs,hu,by simpa using h10⟩
  ·cases h10
inductive bC where
 |d(a:A)
 |o(e:TypeId)(sz n:Nat)(l:List Seg)
 |t(l:List A)
 |p(x:Bk)
 |ob(p:OP)
def HB(D:Nat->Prop)(w:World)(r:Nat):Bk->Prop
 | .var l=>∃cs t,w.heap[r]?=some (.cells (List.toArray cs) t (0,0))/\RL D w l cs
 | .obj p=>∃cs t,w.heap[r]?=some (.cells (List.toArray cs) t (0,0))/\p cs t
 | .sl _ _ _ _=>False
 | .abs _=>False
 | .vh _ _ _ _ _ _ _=>False
 | .gone=>False
 | .bx=>False
theorem HB.up{x:Bk}(k:Keeps D w D' w')(e:w'.heap[r]?=w.heap[r]?)(h:HB D w r x):HB D' w' r x:=by
 cases x with
 |var l=>obtain⟨cs,t,h1,h2⟩:=h;exact⟨cs,t,e.trans h1,h2.up k⟩
 |obj p=>obtain⟨cs,t,h1,h2⟩:=h;exact⟨cs,t,e.trans h1,h2⟩
 |sl=>exact h.elim
 |abs=>exact h.elim
 |vh=>exact h.elim
 |gone=>exact h.elim
 |bx=>exact h.elim
def RR(S:Nat->Prop)(B:Nat)(w:World):bC->Value->Prop
 | .d a,v=>RA (fun r=>S r\/B<=r) w a v
 | .o e sz n l,v=>∃cs,w.ownsRow B e sz v n cs/\RL (fun r=>(S r\/B<=r)/\v.ownBlock≠some r) w l cs
 | .t l,v=>∃vs,v=.tuple vs.toArray/\mH (fun r=>S r\/B<=r) w l vs
 | .p x,v=>∃r,v=.pointer (some ⟨r,0,none⟩)/\B<=r/\HB (fun q=>(S q\/B<=q)/\q≠r) w r x
 | .ob p,v=>∃r F,v=.pointer (some ⟨r,0,none⟩)/\(∀q∈r::F,B<=q/\q<w.heap.size)/\p.p (fun q=>(S q\/B<=q)/\q∉r::F) w (r::F) r
def mG(P:Program)(G:Nat->Option (List Seg))(f:FuncId)(args:List A)(res:bC):Prop:=
 ∀(S:Nat->Prop) (w:World) (vs:List Value),pI G S w->mH S w args vs->Calls P f vs.toArray w fun e w'=>∃v,e=.returned v/\RR S w.heap.size w' res v/\Below w.heap.size w w'
def FnF(P:Program)(G:Nat->Option (List Seg))(f:FuncId)(args:List A)(res:bC):Prop:=
 ∀(S:Nat->Prop) (w:World) (vs:List Value),pI G S w->mH S w args vs->Calls P f vs.toArray w fun e w'=>∃v,e=.returned v/\RR (fun _=>False) w.heap.size w' res v/\Below w.heap.size w w'
def QK(P:Program)(G:Nat->Option (List Seg))(f:FuncId)(pos:Nat)(x:Bk)(args:List A)(res:bC)(x':Bk):Prop:=
 ∀(S:Nat->Prop) (w:World) (r:Nat) (vs:List Value),r<w.heap.size->pI G (fun q=>S q/\q≠r) w->HB (fun q=>S q/\q≠r) w r x->mH (fun q=>S q/\q≠r) w args vs->
  Calls P f (vs.insertIdx pos (.pointer (some ⟨r,0,none⟩))).toArray w fun e w'=>∃v,e=.returned v/\RR (fun q=>S q/\q≠r) w.heap.size w' res v/\HB (fun q=>(S q\/w.heap.size<=q)/\q≠r) w' r x'/\w.grownBy w' (some r)
def wZ:A->Bool| .v _=>true|_=>false
def Ao:A->Bool
 | .v _=>true
 | .agg l=>l.all fun s=>match s with| .gen _ l=>l.all wZ|_=>true
 |_=>false
def RRb(S:Nat->Prop)(w w':World)(F' N:List Nat):bC->Value->Prop
 | .d a,v=>RA (fun q=>(S q\/w.heap.size<=q)/\q∉F') w' a v
 | .t l,v=>∃vs,v=.tuple vs.toArray/\mH (fun q=>(S q\/w.heap.size<=q)/\q∉F') w' l vs
 | .ob p,v=>∃r F,N=r::F/\v=.pointer (some ⟨r,0,none⟩)/\(∀q∈r::F,w.heap.size<=q/\q<w'.heap.size/\q∉F')/\p.p (fun q=>((S q\/w.heap.size<=q)/\q∉F')/\q∉N) w' (r::F) r
 |_,_=>False
def vC(P:Program)(G:Nat->Option (List Seg))(f:FuncId)(pos:Nat)(p:OP)(args:List A)(res:bC)(p':OP):Prop:=
 ∀(S:Nat->Prop) (w:World) (r:Nat) (F:List Nat) (vs:List Value),pI G S w->(∀q∈r::F,q<w.heap.size)->p.p S w (r::F) r->mH S w args vs->(∀z,S z->z∉r::F)->
  Calls P f (vs.insertIdx pos (.pointer (some ⟨r,0,none⟩))).toArray w fun e w'=>∃v F' N,e=.returned v/\(∀q∈F',q∈r::F\/w.heap.size<=q)/\(∀q∈r::F',q<w'.heap.size)/\p'.p (fun q=>((S q\/w.heap.size<=q)/\q∉r::F')/\q∉N) w' (r::F') r/\RRb S w w' (r::F') N res v/\bX (fun q=>q∈r::F) w w'
theorem Pw{S S':Nat->Prop}{w w':World}:∀{l:List A} {vs:List Value},l.all wZ=true->RG S w l vs->RG S' w' l vs
 |_,_,_,.nil=>.nil
 |a::_,_,h,.cons k k1 r=>by
  rw[List.all_cons,Bool.and_eq_true]at h
  refine .cons ?_ k1 (Pw h.2 r)
  cases k with
  |v=>exact .v _
  |_=>exact absurd h.1 (by simp[wZ])
theorem pW{S S':Nat->Prop}{w w':World}:∀{l:List Seg} {cs:List Value},(l.all fun s=>match s with| .gen _ l=>l.all wZ|_=>true)=true->RL S w l cs->RL S' w' l cs
 |_,_,_,.nil=>.nil
 |_,_,h,.ints k r=>.ints k (pW (by simpa using h) r)
 |_,_,h,.bytes k r=>.bytes k (pW (by simpa using h) r)
 |_,_,h,.bools k r=>.bools k (pW (by simpa using h) r)
 |_,_,h,.gen g k r=>by
  rw[List.all_cons,Bool.and_eq_true]at h
  exact .gen (Pw h.1 g) k (pW h.2 r)
theorem rE{a:A}(h:Ao a=true)(k:RA S w a v):RA S' w' a v:=by
 cases k with
 |v=>exact .v _
 |agg k=>exact .agg (pW (by simpa[Ao]using h) k)
 |row=>cases h
 |ref=>cases h
 |sref=>cases h
 |recs=>cases h
 |NM=>cases h
end
section
structure Env where
 P:Program
 Y:TypeId->Option TI
 G:Nat->Option (List Seg)
 C:FuncId->List A->(bC->Prop)->Prop
 M:FuncId->Nat->Bk->List A->(bC->Bk->Prop)->Prop
 B:FuncId->Nat->OP->List A->(bC->OP->Prop)->Prop:=fun _ _ _ _ _=>False
 hY:∀t i,Y t=some i->D7 P t i
 hC:∀f args K,C f args K->∃r,mG P G f args r/\K r
 Ya:∀f pos x args K,M f pos x args K->(∃r x',QK P G f pos x args r x'/\K r x')/\∃fn,P.funcs[f]?=some fn/\fn.body.isNone=false/\(fn.name== "runtime.NumGoroutine")=false
 hB:∀f pos p args K,B f pos p args K->(∃r p',vC P G f pos p args r p'/\K r p')/\∃fn,P.funcs[f]?=some fn/\fn.body.isNone=false/\(fn.name== "runtime.NumGoroutine")=false:=by intro _ _ _ _ _ h;exact h.elim
 hF:∀f args K,C f args K->∃fn,P.funcs[f]?=some fn/\fn.body.isNone=false/\(fn.name== "runtime.NumGoroutine")=false
 fr:FuncId->Bool:=fun _=>false
 hfr:∀f args K,fr f=true->C f args K->∃r,mG P G f args r/\FnF P G f args r/\K r:=by intro _ _ _ h;cases h
def St.ev(s:St):Operand->T
 | .tmp t=>s.sl t
 | .const v=>.d (.v v)
 | .func f=>.d (.v (.func (.func f) #[] #[]))
 | .global _=>.au
abbrev KO:=T->Option (Nat×Bk)->Prop
def aL6 (op : BinOp) (p q : A) (K : A -> Prop) : Prop :=
  match p, q with
  | .v (.int k a), .v (.int k' b) =>
    (match op with
     | .add => k = k' /\ K (.v (.int k (k.wrap (a + b))))
     | .sub => k = k' /\ K (.v (.int k (k.wrap (a - b))))
     | .mul => k = k' /\ K (.v (.int k (k.wrap (a * b))))
     | .quo => k = k' /\ b ≠ 0 /\ K (.v (.int k (k.wrap (a.tdiv b))))
     | .rem => k = k' /\ b ≠ 0 /\ K (.v (.int k (a.tmod b)))
     | .and => k = k' /\ K (.v (.int k (bits .and k a b)))
     | .or => k = k' /\ K (.v (.int k (bits .or k a b)))
     | .xor => k = k' /\ K (.v (.int k (bits .xor k a b)))
     | .andNot => k = k' /\ K (.v (.int k (bits .andNot k a b)))
     | .shl => ¬ b < 0 /\ K (.v (.int k (k.wrap (a * 2 ^ (min b.toNat k.bits)))))
     | .shr => ¬ b < 0 /\ K (.v (.int k (a.fdiv (2 ^ (min b.toNat k.bits)))))
     | .eql => k = k' /\ K (.v (.bool (a == b)))
     | .neq => k = k' /\ K (.v (.bool (a != b)))
     | .lss => k = k' /\ K (.v (.bool (decide (a < b))))
     | .leq => k = k' /\ K (.v (.bool (decide (a <= b))))
     | .gtr => k = k' /\ K (.v (.bool (decide (a > b))))
     | .geq => k = k' /\ K (.v (.bool (decide (a >= b)))))
  | _, _ => False
def rdK(l:List Seg)(agg:Bool)(n base:Nat)(K:A->Prop):Prop:=
 if agg=true then(match cut l base n with|some m=>base+n<=dM l/\K (.agg m)|none=>False)
 else(match loc l base with|some (_,s,_,i)=>K (s.cell i)|none=>False)
def Y2(l:List Seg)(agg:Bool)(n base rel:Nat)(K:A->Prop):Prop:=
 match l with
 |[s]=>if agg=true then base+rel+n<=s.n/\K (.agg [s.sub (base+rel) n])else base+rel<s.n/\K (s.cell (base+rel))
 |l=>
 match loc l base with
 |some (_,s,_,i)=>if agg=true then i+rel+n<=s.n/\K (.agg [s.sub (i+rel) n])else i+rel<s.n/\K (s.cell (i+rel))
 |none=>False
def wrK(l:List Seg)(base:Nat)(a:A)(n:Nat)(K:List Seg->Prop):Prop:=
 match a with
 | .agg m=>dM m=n/\(match put l base m with|some l'=>K l'|none=>False)
 |a=>n=1/\(match loc l base with|some (p,s,q,i)=>s.zM i a fun s'=>K (p++s'::q)|none=>False)
def bd5(l:List Seg)(base rel:Nat)(a:A)(n:Nat)(K:List Seg->Prop):Prop:=
 match loc l base with
 |some (p,s,q,i)=>(match a with
  | .agg [x]=>x.n=n/\i+rel+n<=s.n/\(match s.over (i+rel) x with|some s'=>K (p++s'::q)|none=>False)
  | .agg _=>False
  |a=>n=1/\i+rel<s.n/\s.zM (i+rel) a fun s'=>K (p++s'::q))
 |none=>False
section
variable {S : Nat -> Prop} {w : World}
theorem tK{agg:Bool}{K:A->Prop}(h:rdK l agg n base K):∃a,K a/\∀{S:Nat->Prop} {w:World} {cs:List Value},RL S w l cs->
  (agg=true->base+n<=cs.length/\RA S w a (.agg ((cs.drop base).take n).toArray))/\(agg=false->∃v,cs[base]?=some v/\RA S w a v/\v.oneCell'=true):=by
 unfold rdK at h
 cases agg with
 |true=>
  simp only[if_true]at h
  cases hc:cut l base n with
  |none=>rw[hc]at h;exact h.elim
  |some m=>
   rw[hc]at h
   exact⟨_,h.2,fun hl=>⟨fun _=>⟨by rw[hl.len];exact h.1,.agg (hl.cut hc).1⟩,fun e=>by cases e⟩⟩
 |false=>
  simp only[Bool.false_eq_true,if_false]at h
  cases hc:loc l base with
  |none=>rw[hc]at h;exact h.elim
  |some x=>
   obtain⟨p,s,q,i⟩:=x
   rw[hc]at h
   refine⟨_,h,fun hl=>⟨fun e=>(by cases e),fun _=>?_⟩⟩
   obtain⟨c,d,e,rfl,h1,h2,h3,h4,h5,h6⟩:=hl.found hc
   obtain⟨v,h7,h8,h9⟩:=h2.cell i h5
   refine⟨v,?_,h8,h9⟩
   rw[<-h4,List.getElem?_append_right (by omega),show c.length+i-c.length=i by omega,List.getElem?_append_left (by omega)]
   exact h7
theorem yu{agg:Bool}{n base rel:Nat}{K:A->Prop}(h:Y2 l agg n base rel K):∃a,K a/\∀{S:Nat->Prop} {w:World} {cs:List Value},RL S w l cs->
  (agg=true->base+rel+n<=cs.length/\RA S w a (.agg ((cs.drop (base+rel)).take n).toArray))/\(agg=false->∃v,cs[base+rel]?=some v/\RA S w a v/\v.oneCell'=true):=by
 unfold Y2 at h
 split at h
 ·next s=>
  cases agg with
  |true=>
   simp only[if_true]at h
   refine⟨_,h.2,fun hl=>⟨fun _=>?_,fun e=>by cases e⟩⟩
   have hlen:=hl.len
   simp only[dM,Nat.add_zero]at hlen
   exact⟨by omega,.agg (hl.sub _ n h.1)⟩
  |false=>
   simp only[Bool.false_eq_true,if_false]at h
   exact⟨_,h.2,fun hl=>⟨fun e=>(by cases e),fun _=>hl.cell _ h.1⟩⟩
 cases hc:loc l base with
 |none=>rw[hc]at h;exact h.elim
 |some x=>
  obtain⟨p,s,q,i⟩:=x
  rw[hc]at h
  simp only at h
  cases agg with
  |true=>
   simp only[if_true]at h
   refine⟨_,h.2,fun hl=>⟨fun _=>?_,fun e=>by cases e⟩⟩
   obtain⟨c,d,e,rfl,h1,h2,h3,h4,h5,h6⟩:=hl.found hc
   refine⟨by simp;omega,?_⟩
   have:=h2.sub (i+rel) n h.1
   rw[<-h4,List.drop_append,List.drop_of_length_le (by omega),List.nil_append,show c.length+i+rel-c.length=i+rel by omega,List.drop_append_of_le_length (by omega),List.take_append_of_le_length (by simp;omega)]
   exact .agg this
  |false=>
   simp only[Bool.false_eq_true,if_false]at h
   refine⟨_,h.2,fun hl=>⟨fun e=>(by cases e),fun _=>?_⟩⟩
   obtain⟨c,d,e,rfl,h1,h2,h3,h4,h5,h6⟩:=hl.found hc
   obtain⟨v,h7,h8,h9⟩:=h2.cell (i+rel) h.1
   refine⟨v,?_,h8,h9⟩
   rw[<-h4,List.getElem?_append_right (by omega),show c.length+i+rel-c.length=i+rel by omega,List.getElem?_append_left (by omega)]
   exact h7
theorem set_mid{c d e:List Value}{i:Nat}(v:Value)(h:i<d.length):(c++(d++e)).take (c.length+i)++([v]++(c++(d++e)).drop (c.length+i+1))=c++(d.set i v++e):=by
 rw[List.take_append,List.take_of_length_le (by omega),show c.length+i-c.length=i by omega,List.take_append_of_le_length (by omega),
  List.drop_append,List.drop_of_length_le (by omega),List.nil_append,show c.length+i+1-c.length=i+1 by omega,List.drop_append_of_le_length (by omega),
  List.set_eq_take_append_cons_drop,if_pos h]
 simp
theorem P9{s:Seg}{i:Nat}{a:A}{K:Seg->Prop}(h:s.zM i a K):∃s',K s'/\∀{S:Nat->Prop} {w:World} {ds:List Value} {v:Value},RL S w [s] ds->RA S w a v->RL S w [s'] (ds.set i v)/\v.oneCell'=true:=by
 cases s with
 |ints k m zs=>
  simp only[Seg.zM]at h
  split at h
  ·obtain⟨rfl,hK⟩:=h
   exact⟨_,hK,fun hd hv=>by cases hv;obtain⟨h1,rfl⟩:=hd.fB;exact⟨.fI (by simp[h1]) (by simp[List.map_set]),rfl⟩⟩
  ·exact h.elim
 |bytes m bs=>
  simp only[Seg.zM]at h
  split at h
  ·obtain⟨rfl,h0,h2,hK⟩:=h
   exact⟨_,hK,fun hd hv=>by cases hv;obtain⟨h1,rfl⟩:=hd.iZ;exact⟨.ofBytes (by simp[h1]) (by simp[HL,List.map_set,Xb h0 h2]),rfl⟩⟩
  ·exact h.elim
 |bools m bs=>
  simp only[Seg.zM]at h
  split at h
  ·exact⟨_,h,fun hd hv=>by cases hv;obtain⟨h1,rfl⟩:=hd.rY;exact⟨.yg (by simp[h1]) (by simp[List.map_set]),rfl⟩⟩
  ·exact h.elim
 |gen m jq=>
  simp only[Seg.zM]at h
  split at h
  ·exact⟨_,h.2,fun hd hv=>by cases hv;obtain⟨h1,g⟩:=hd.gB;exact⟨.iL (by simp[h1]) (g.set i (.v _) h.1),h.1⟩⟩
  ·exact⟨_,h,fun hd hv=>by cases hv with|row a b c d f=>obtain⟨h1,g⟩:=hd.gB;exact⟨.iL (by simp[h1]) (g.set i (.row a b c d f) rfl),rfl⟩⟩
  ·exact⟨_,h,fun hd hv=>by cases hv with|ref a b=>obtain⟨h1,g⟩:=hd.gB;exact⟨.iL (by simp[h1]) (g.set i (.ref a b) rfl),rfl⟩⟩
  ·exact⟨_,h,fun hd hv=>by cases hv with|sref a b=>obtain⟨h1,g⟩:=hd.gB;exact⟨.iL (by simp[h1]) (g.set i (.sref a b) rfl),rfl⟩⟩
  ·exact⟨_,h,fun hd hv=>by cases hv with|recs a b c d f=>obtain⟨h1,g⟩:=hd.gB;exact⟨.iL (by simp[h1]) (g.set i (.recs a b c d f) rfl),rfl⟩⟩
  ·exact h.elim
theorem Pk(hv:v.oneCell'=true):v.cells=#[v]:=by cases v<;>first|rfl|cases hv
theorem nU{base rel n:Nat}{a:A}{p:List Seg}{s:Seg}{q:List Seg}{i:Nat}(hc:loc l base=some (p,s,q,i))(hn:n=1)(hr:i+rel<s.n)(h:s.zM (i+rel) a fun s'=>K (p++s'::q)):
  ∃l',K l'/\∀{S:Nat->Prop} {w:World} {cs:List Value} {v:Value},RL S w l cs->RA S w a v->
   v.cells.size=n/\(∀u∈v.cells.toList,u.oneCell'=true)/\(base+rel+n<=cs.length\/n=0)/\RL S w l' (cs.take (base+rel)++(v.cells.toList++cs.drop (base+rel+n))):=by
 subst hn
 obtain⟨s',hK,hs⟩:=P9 h
 refine⟨_,hK,fun {S w cs v} hl hv=>?_⟩
 obtain⟨c,d,e,rfl,h1,h2,h3,h4,h5,h6⟩:=hl.found hc
 obtain⟨k1,k2⟩:=hs h2 hv
 rw[Pk k2]
 refine⟨rfl,by simpa using k2,.inl (by simp;omega),?_⟩
 rw[<-h4,Nat.add_assoc]
 have:=set_mid (c:=c) (d:=d) (e:=e) (i:=i+rel) v (by omega)
 rw[show(#[v]:Array Value).toList=[v]from rfl,this]
 have k3:=h1.append (k1.append h3)
 simpa using k3
theorem BG{a:A}(h:wrK l base a n K):∃l',K l'/\∀{S:Nat->Prop} {w:World} {cs:List Value} {v:Value},RL S w l cs->RA S w a v->
  v.cells.size=n/\(∀u∈v.cells.toList,u.oneCell'=true)/\(base+n<=cs.length\/n=0)/\RL S w l' (cs.take base++(v.cells.toList++cs.drop (base+n))):=by
 have one:∀(a:A),(n=1/\(match loc l base with|some (p,s,q,i)=>s.zM i a fun s'=>K (p++s'::q)|none=>False))->∃l',K l'/\∀{S:Nat->Prop} {w:World} {cs:List Value} {v:Value},RL S w l cs->RA S w a v->
   v.cells.size=n/\(∀u∈v.cells.toList,u.oneCell'=true)/\(base+n<=cs.length\/n=0)/\RL S w l' (cs.take base++(v.cells.toList++cs.drop (base+n))):=by
  clear h
  rintro a ⟨hn,h⟩
  cases hc:loc l base with
  |none=>rw[hc]at h;exact h.elim
  |some x=>
   obtain⟨p,s,q,i⟩:=x
   rw[hc]at h
   exact nU (rel:=0) hc hn (Gc hc).2.2 h
 unfold wrK at h
 cases a with
 |agg m=>
  simp only at h
  obtain⟨rfl,h⟩:=h
  cases hp:put l base m with
  |none=>rw[hp]at h;exact h.elim
  |some l'=>
   rw[hp]at h
   refine⟨_,h,fun hl hv=>?_⟩
   cases hv with
   |agg k=>
    have kl:=k.len
    obtain⟨k1,k2⟩:=hl.put k hp
    refine⟨by simp[Value.cells,kl],by simpa[Value.cells]using k.one,?_,by simpa[Value.cells,kl]using k1⟩
    rcases k2 with k2|k2
    ·left;rw[<-kl];exact k2
    ·right;rw[<-kl,k2];rfl
 |v x=>exact one _ h
 |row m r=>exact one _ h
 |ref r o=>exact one _ h
 |sref r o=>exact one _ h
 |recs m z f=>exact one _ h
 |NM f l=>exact one _ h
theorem KT{base rel n:Nat}{a:A}(h:bd5 l base rel a n K):∃l',K l'/\∀{S:Nat->Prop} {w:World} {cs:List Value} {v:Value},RL S w l cs->RA S w a v->
  v.cells.size=n/\(∀u∈v.cells.toList,u.oneCell'=true)/\(base+rel+n<=cs.length\/n=0)/\RL S w l' (cs.take (base+rel)++(v.cells.toList++cs.drop (base+rel+n))):=by
 unfold bd5 at h
 cases hc:loc l base with
 |none=>rw[hc]at h;exact h.elim
 |some x=>
  obtain⟨p,s,q,i⟩:=x
  rw[hc]at h
  simp only at h
  cases a with
  |v x=>exact nU hc h.1 h.2.1 h.2.2
  |row m r=>exact nU hc h.1 h.2.1 h.2.2
  |ref r o=>exact nU hc h.1 h.2.1 h.2.2
  |sref r o=>exact nU hc h.1 h.2.1 h.2.2
  |recs m z f=>exact nU hc h.1 h.2.1 h.2.2
  |NM f l=>exact nU hc h.1 h.2.1 h.2.2
  |agg m=>
   match m,h with
   |[x],h=>
    simp only at h
    obtain⟨rfl,h1,h⟩:=h
    cases hp:s.over (i+rel) x with
    |none=>rw[hp]at h;exact h.elim
    |some s'=>
     rw[hp]at h
     refine⟨_,h,fun {S w cs v} hl hv=>?_⟩
     obtain⟨c,d,e,rfl,k1,k2,k3,k4,k5,k6⟩:=hl.found hc
     cases hv with
     |agg k=>
      rename_i ds
      have kl:=k.len
      simp only[dM,Nat.add_zero]at kl
      obtain⟨j1,j2⟩:=k2.over k (i+rel) hp h1
      refine⟨by simp[Value.cells,kl],by simpa[Value.cells]using k.one,.inl (by simp;omega),?_⟩
      have j3:=k1.append (j1.append k3)
      have e1:(c++(d++e)).take (base+rel)++(ds++(c++(d++e)).drop (base+rel+x.n))=c++((d.take (i+rel)++(ds++d.drop (i+rel+ds.length)))++e):=by
       rw[<-k4,List.take_append,List.take_of_length_le (by omega),show c.length+i+rel-c.length=i+rel by omega,List.take_append_of_le_length (by omega),
        List.drop_append,List.drop_of_length_le (by omega),List.nil_append,show c.length+i+rel+x.n-c.length=i+rel+ds.length by omega,List.drop_append_of_le_length (by omega)]
       simp
      have e2:(Value.agg ds.toArray).cells.toList=ds:=by simp[Value.cells]
      rw[e2,e1]
      simpa using j3
   |[],h=>exact h.elim
   |_::_::_,h=>exact h.elim
end
end
end Go.Proofs.YtegalalmamofdaaGreatDoor
