/- -/
import Derived.Test.YtegalalmamofdaaGreatDoorJ5
import Derived.OpenShut
import Derived.ChangeSlices
import Derived.Deep.Matrix
import Derived.SizedLaws
import Derived.Laws.BytesArg
import Derived.Laws.CopyOwn
namespace Go.Proofs.YtegalalmamofdaaGreatDoor
set_option linter.all false
set_option maxRecDepth 100000
open Go.RowKit
variable{w:World}{S:Nat->Prop}{t:TypeId}{x y:Operand}
section
theorem ko{P:Program}{ops:Array Oper}{Q:Exit->Act->World->Prop}{rest:List Oper}{d:Option Tmp}{op:Op}{ty:TypeId}{pos:String}{af:Array Edge}{g:Option (Nat×Bool)}{a:Act}(hw:Region.wanted ⟨d,op,ty,pos,af,g⟩ (yielded ops a.tmps)=true)
  (h:wpList P ops Q (⟨d,op,ty,pos,af,none⟩::rest) a w):wpList P ops Q (⟨d,op,ty,pos,af,g⟩::rest) a w:=by
 unfold wpList at*
 rw[if_pos hw]
 exact h
theorem II.yN{g n:Nat}{e:TypeId}(L:List (List UInt8))(cs:Array Value)(hg:g=w.heap.size)(hn:n=L.length)(hm:L.length<=maxLen)
  (h:∀(i:Nat) (hi:i<L.length),∃a' l' c',cs[i]?=some (.slice a' l' c')/\fP w a' l' L[i]):II (w.alloc (.cells cs e)) (some ⟨g,0,none⟩) n L:=by
 subst hg hn
 refine⟨rfl,hm,.inr ⟨w.heap.size,0,rfl,fun i hi=>?_⟩⟩
 obtain⟨a',l',c',h1,h2⟩:=h i hi
 rw[Nat.zero_add,cell_of_row _ _ i _ _ _ (aM.new w cs e)]
 exact⟨a',l',c',h1,h2.below (Below.alloc (Below.refl _ _) (Nat.le_refl _) _)⟩
theorem II.one{e:TypeId}{a:Option Addr}{l c:Nat}{bs:List UInt8}(h:fP w a l bs):II (w.alloc (.cells #[.slice a l c] e)) (some ⟨w.heap.size,0,none⟩) 1 [bs]:=
 II.yN _ _ rfl rfl (by simp[maxLen]) fun i hi=>by
  obtain rfl:i=0:=by simpa using hi
  exact⟨a,l,c,rfl,h⟩
theorem _root_.Go.RowKit.Below.next{B:Nat}{a w:World}(h:Below B a w)(hB:B<=a.heap.size)(o:Obj):Below B a (w.alloc o):=h.alloc (Nat.le_trans hB h.size) o
theorem _root_.Go.RowKit.Below.later{B:Nat}{a b c:World}(h:Below B a b)(k:Below b.heap.size b c)(hB:B<=a.heap.size):Below B a c:=h.trans (k.mono (Nat.le_trans hB h.size))
end
section
open Go.ChangeShapes Go.WideShapes
section
variable {H : Type} {enc : TypeId × Value -> H} {P : Program} {w : World} {base b0 : Nat} {spare : Nat -> Bool} {held : Bool}
end
end
section
def ba1(bs:List UInt8):ByteArray:=⟨bs.toArray⟩
theorem fP.str{P:Program}{a:Option Addr}{l:Nat}{bs:List UInt8}(h:fP w a l bs)(src dst e:TypeId)(c:Nat)(hs:P.underlying src=some (.slice e))(he:P.underlying e=some (.int .u8))(hd:P.underlying dst=some .string):
  (convert src dst (.slice a l c)).run P w=.ok (.string (ba1 bs)) w:=by
 have hl:=h.len_eq
 subst hl
 rcases h.cells with h0|⟨b,off,rfl,hc⟩
 ·subst h0
  rw[List.length_nil,run_convert_bytes_string w src dst e a 0 c hs he hd]
  cases a<;>simp[Conv.bytesToString,loadCells,ba1]<;>rfl
 ·rw[run_convert_bytes_arg w src e hs he b off bs.length c (bs.map Bt) (by simp) (fun i hi=>by rw[hc i hi];simp[List.getD,List.getElem?_eq_getElem hi]) dst hd]
  have e1:(bs.map Bt).map (fun n=>UInt8.ofNat n.toNat)=bs:=by
   rw[List.map_map]
   conv=>rhs;rw[<-List.map_id bs]
   exact List.map_congr_left fun x _=>by simp[Bt]
  unfold ba1 strOfNums
  rw[e1]
end
section
section
variable {E : ak} {o : Oper} {s : St} {fr : Nat}
theorem qA:Keeps S w (fun _=>True) w:=⟨Nat.le_refl _,fun _ _ _=>⟨trivial,fun _=>rfl⟩⟩
theorem dw{S S':Nat->Prop}(h:∀q,S q->S' q):Keeps S w S' w:=⟨Nat.le_refl _,fun q _ hs=>⟨h q hs,fun _=>rfl⟩⟩
theorem mH.flat{S S':Nat->Prop}{w w':World}:∀{l:List A} {vs:List Value},l.all Ao=true->mH S w l vs->mH S' w' l vs
 |_,_,_,.nil=>.nil
 |_,_,h,.cons k r=>by
  simp only[List.all_cons,Bool.and_eq_true]at h
  exact .cons (rE h.1 k) (r.flat h.2)
theorem Ht{s:St}:∀{ps:List Pt} {K:List A->Prop},DK s ps K->∃rs,K rs/\rs.length=ps.length/\
  ∀(S:Nat->Prop) (base:Nat) (w0:W0 E.G) (s':St) (ρ:Nat->Option Value) (a:Act) (w:World) (vs:List Value),(∀b∈ps.flatMap Pt.refs,s'.bk b=s.bk b)->Good S base w0 s' ρ a w->QM (Dt S base ρ) ρ w ps vs->
   ∀D':Nat->Prop,(∀q,Dt S base ρ q->D' q)->(∀b∈ps.flatMap Pt.refs,∀u q,ρ b=some u->Rl u q->D' q)->RG D' w rs vs
 |[],K,h=>⟨[],h,rfl,fun S base w0 s' ρ a w vs _ _ hv D' _ _=>by cases hv;exact .nil⟩
 |p::ps,K,h=>by
  have go:∀{K' K1:List A->Prop} {x:A},DK s ps K1->(∀rs,K1 rs->K' (x::rs))->(∀(S:Nat->Prop) (base:Nat) (w0:W0 E.G) (s':St) (ρ:Nat->Option Value) (a:Act) (w:World) (v:Value),(∀b∈p.refs,s'.bk b=s.bk b)->Good S base w0 s' ρ a w->RP (Dt S base ρ) ρ w p v->
    ∀D':Nat->Prop,(∀q,Dt S base ρ q->D' q)->(∀b∈p.refs,∀u q,ρ b=some u->Rl u q->D' q)->RA D' w x v/\v.oneCell'=true)->
    ∃rs,K' rs/\rs.length=(p::ps).length/\∀(S:Nat->Prop) (base:Nat) (w0:W0 E.G) (s':St) (ρ:Nat->Option Value) (a:Act) (w:World) (vs:List Value),(∀b∈(p::ps).flatMap Pt.refs,s'.bk b=s.bk b)->Good S base w0 s' ρ a w->QM (Dt S base ρ) ρ w (p::ps) vs->
     ∀D':Nat->Prop,(∀q,Dt S base ρ q->D' q)->(∀b∈(p::ps).flatMap Pt.refs,∀u q,ρ b=some u->Rl u q->D' q)->RG D' w rs vs:=by
   intro K' K1 x h1 hx h2
   obtain⟨rs,k1,k2,k3⟩:=Ht h1
   refine⟨x::rs,hx _ k1,by simp[k2],fun S base w0 s' ρ a w vs hb g hv D' hD hR=>?_⟩
   cases hv with
   |cons hp hr=>
    obtain⟨e1,e2⟩:=h2 S base w0 s' ρ a w _ (fun b hb'=>hb b (by simp[hb'])) g hp D' hD (fun b hb'=>hR b (by simp[hb']))
    exact .cons e1 e2 (k3 S base w0 s' ρ a w _ (fun b hb'=>hb b (by rw[List.flatMap_cons,List.mem_append];exact .inr hb')) g hr D' hD (fun b hb'=>hR b (by rw[List.flatMap_cons,List.mem_append];exact .inr hb')))
  unfold DK at h
  split at h
  ·next e=>cases e
  ·next n l r e=>
   cases e
   refine go h (fun _ h=>h) fun S base w0 s' ρ a w v _ g hp D' hD _=>⟨RA.up (dw hD) hp,?_⟩
   cases hp with|row=>rfl
  ·next r e=>
   cases e
   refine go h (fun _ h=>h) fun S base w0 s' ρ a w v _ g hp D' hD _=>?_
   rw[RA.plain hp]
   exact⟨.row .nil (Nat.le_refl _) (Nat.zero_le _) (fun _=>rfl) (.inl rfl),rfl⟩
  ·exact h.elim
  ·next b n r e=>
   cases e
   split at h
   ·next e sz m l hk=>
    obtain⟨rfl,h⟩:=h
    refine go h (fun _ h=>h) fun S base w0 s' ρ a w v hb g hp D' hD hR=>?_
    have hk':=(hb b (by simp[Pt.refs])).trans hk
    obtain⟨cs,k1,k2,k3⟩:=lM g hk' (v:=v) hp
    rcases k2.2 with⟨e1,e2⟩|⟨r,cap,cur,e1,e3,e4,e5,e6,e7,e8⟩
    ·rw[e1,e2]
     have hcs:cs=[]:=by have:=k2.1;rw[e2,Nat.zero_mul]at this;exact List.length_eq_zero_iff.1 this
     exact⟨.row (k3.up (dw hD)) (Nat.le_refl _) (Nat.zero_le _) (fun _=>rfl) (.inl hcs),rfl⟩
    ·rw[e1]
     refine⟨.row (k3.up (dw hD)) e5 e6 (fun e=>by cases e) (.inr ⟨r,0,rfl,hR b (by simp[Pt.refs]) _ r k1 (by rw[e1];rfl),(Array.getElem?_eq_some_iff.1 e4).1,fun j hj=>?_⟩),rfl⟩
     rw[Nat.zero_add,cell_of_row w r j cur e (0,0) e4]
     have:(cur.toList.take (n*sz))[j]?=cs[j]?:=by rw[e8]
     rw[List.getElem?_take,if_pos (by have:=k2.1;omega),Array.getElem?_toList,List.getElem?_eq_getElem hj]at this
     exact this
   ·exact h.elim
  ·next b q n r e=>
   cases e
   split at h
   ·next l hk=>
    split at h
    ·next m hm=>
     obtain⟨hle,h⟩:=h
     refine go h (fun _ h=>h) fun S base w0 s' ρ a w v hb g hp D' hD hR=>?_
     obtain⟨r,cs,ty,k1,k2,k3,k4⟩:=g.var ((hb b (by simp[Pt.refs])).trans hk)
     obtain⟨r',c,e1,e2,e3,e4⟩:=hp _ k1
     obtain rfl:=e1.ptr
     rw[e2]
     refine⟨.row ((k4.cut hm).1.up (dw hD)) e3 e4 (fun e=>by cases e) (.inr ⟨r,q,rfl,hR b (by simp[Pt.refs]) _ r k1 rfl,(Array.getElem?_eq_some_iff.1 k3).1,fun j hj=>?_⟩),rfl⟩
     have hj':j<n:=by simp at hj;omega
     rw[fU k3]
     simp
    ·exact h.elim
   ·exact h.elim
theorem jJ{s:St}:∀{xs:List Operand} {K:List A->Bool->Prop},sP s (xs.map s.ev) K->∃ds dF,K ds dF/\
  ∀(S:Nat->Prop) (base:Nat) (w0:W0 E.G) (s':St) (ρ:Nat->Option Value) (a:Act) (w:World),(∀x∈xs,s'.ev x=s.ev x/\∀b∈(s.ev x).refs,s'.bk b=s.bk b)->Good S base w0 s' ρ a w->
   (∀D':Nat->Prop,(∀q,Dt S base ρ q->D' q)->(∀x∈xs,∀b∈(s.ev x).refs,∀u q,ρ b=some u->Rl u q->D' q)->mH D' w ds (xs.map a.eval))/\(dF=false->mH (Dt S base ρ) w ds (xs.map a.eval))
 |[],K,h=>⟨[],false,h,fun S base w0 s' ρ a w _ _=>⟨fun _ _ _=>.nil,fun _=>.nil⟩⟩
 |x::xs,K,h=>by
  simp only[List.map_cons,sP]at h
  split at h
  ·next d hx=>
   obtain⟨ds,dF,hK,hr⟩:=jJ h
   refine⟨d::ds,dF,hK,fun S base w0 s' ρ a w hs g=>?_⟩
   obtain⟨h1,h2⟩:=hr S base w0 s' ρ a w (fun y hy=>hs y (by simp[hy])) g
   have hv:=g.ev x
   rw[(hs x (by simp)).1,hx]at hv
   exact⟨fun D' hD hR=>.cons (RA.up (dw hD) hv) (h1 D' hD fun y hy=>hR y (by simp[hy])),fun hl=>.cons hv (h2 hl)⟩
  ·next b n hx=>
   split at h
   ·next e sz m l hk=>
    obtain⟨rfl,h⟩:=h
    obtain⟨ds,dF,hK,hr⟩:=jJ (K:=fun l' _=>K (.row n l::l') true) h
    refine⟨.row n l::ds,true,hK,fun S base w0 s' ρ a w hs g=>?_⟩
    obtain⟨h1,h2⟩:=hr S base w0 s' ρ a w (fun y hy=>hs y (by simp[hy])) g
    have hv:=g.ev x
    rw[(hs x (by simp)).1,hx]at hv
    obtain⟨cs,k1,k2,k3⟩:=lM g (((hs x (by simp)).2 b (by rw[hx];simp[T.refs])).trans hk) hv
    refine⟨fun D' hD hR=>.cons ?_ (h1 D' hD fun y hy=>hR y (by simp[hy])),fun e=>by cases e⟩
    rcases k2.2 with⟨e1,e2⟩|⟨r,cap,cur,e1,e3,e4,e5,e6,e7,e8⟩
    ·rw[e1,e2]
     have hcs:cs=[]:=by have:=k2.1;rw[e2,Nat.zero_mul]at this;exact List.length_eq_zero_iff.1 this
     exact .row (k3.up (dw hD)) (Nat.le_refl _) (Nat.zero_le _) (fun _=>rfl) (.inl hcs)
    ·rw[e1]
     refine .row (k3.up (dw hD)) e5 e6 (fun e=>by cases e) (.inr ⟨r,0,rfl,hR x (by simp) b (by rw[hx];simp[T.refs]) _ r k1 (by rw[e1];rfl),(Array.getElem?_eq_some_iff.1 e4).1,fun j hj=>?_⟩)
     rw[Nat.zero_add,cell_of_row w r j cur e (0,0) e4]
     have:(cur.toList.take (n*sz))[j]?=cs[j]?:=by rw[e8]
     rw[List.getElem?_take,if_pos (by have:=k2.1;omega),Array.getElem?_toList,List.getElem?_eq_getElem hj]at this
     exact this
   ·exact h.elim
  ·next b n q hx=>
   split at h
   ·next e sz m l hk=>
    obtain⟨rfl,hnm,hsz,h⟩:=h
    obtain⟨l1,h,hle,hsub⟩:=KH h
    obtain⟨ds,dF,hK,hr⟩:=jJ (K:=fun l' _=>K (.row n l1::l') true) h
    refine⟨.row n l1::ds,true,hK,fun S base w0 s' ρ a w hs g=>?_⟩
    obtain⟨h1,h2⟩:=hr S base w0 s' ρ a w (fun y hy=>hs y (by simp[hy])) g
    have hv:=g.ev x
    rw[(hs x (by simp)).1,hx]at hv
    obtain⟨u,cs,k1,k2,k3⟩:=g.slc (((hs x (by simp)).2 b (by rw[hx];simp[T.refs])).trans hk)
    obtain⟨ad,n',c,rfl,e9,e10⟩:=hv u k1
    have hn':q=n':=by
     rcases k2.2 with⟨e1,e2⟩|⟨g',cap,cur,e1,_⟩
     ·cases e1;omega
     ·cases e1;rfl
    subst hn'
    refine⟨fun D' hD hR=>.cons ?_ (h1 D' hD fun y hy=>hR y (by simp[hy])),fun e=>by cases e⟩
    rw[e10 rfl]
    have hrow:RA D' w (.row q l) (.slice ad q c):=by
     rcases k2.2 with⟨e1,e2⟩|⟨r,cap,cur,e1,e3,e4,e5,e6,e7,e8⟩
     ·have hcs:cs=[]:=by have:=k2.1;rw[e2,Nat.zero_mul]at this;exact List.length_eq_zero_iff.1 this
      rw[e1,e2]
      exact .row (k3.up (dw hD)) (Nat.le_refl _) (Nat.zero_le _) (fun _=>rfl) (.inl hcs)
     ·rw[e1]
      refine .row (k3.up (dw hD)) e5 e6 (fun e=>by cases e) (.inr ⟨r,0,rfl,hR x (by simp) b (by rw[hx];simp[T.refs]) _ r k1 (by rw[e1];rfl),(Array.getElem?_eq_some_iff.1 e4).1,fun j hj=>?_⟩)
      rw[Nat.zero_add,cell_of_row w r j cur e (0,0) e4]
      have:(cur.toList.take (q*sz))[j]?=cs[j]?:=by rw[e8]
      rw[List.getElem?_take,if_pos (by have:=k2.1;omega),Array.getElem?_toList,List.getElem?_eq_getElem hj]at this
      exact this
    have hfin:=Kr (a:=0) (b:=n) (e:=sz) (m:=l1) hrow (Nat.zero_le _) hnm hsz (by rw[Nat.zero_mul,Nat.sub_zero];exact hle) (fun hl=>by rw[Nat.zero_mul,Nat.sub_zero];exact hsub hl)
    unfold sliced at hfin
    simpa using hfin
   ·exact h.elim
  ·next b q n hx=>
   split at h
   ·next l hk=>
    split at h
    ·next m hm=>
     obtain⟨hle,h⟩:=h
     obtain⟨ds,dF,hK,hr⟩:=jJ (K:=fun l' _=>K (.row n m::l') true) h
     refine⟨.row n m::ds,true,hK,fun S base w0 s' ρ a w hs g=>?_⟩
     obtain⟨h1,h2⟩:=hr S base w0 s' ρ a w (fun y hy=>hs y (by simp[hy])) g
     have hv:=g.ev x
     rw[(hs x (by simp)).1,hx]at hv
     obtain⟨r,cs,ty,k1,k2,k3,k4⟩:=g.var (((hs x (by simp)).2 b (by rw[hx];simp[T.refs])).trans hk)
     obtain⟨r',c,e1,e2,e3,e4⟩:=hv _ k1
     obtain rfl:=e1.ptr
     refine⟨fun D' hD hR=>.cons ?_ (h1 D' hD fun y hy=>hR y (by simp[hy])),fun e=>by cases e⟩
     rw[e2]
     refine .row ((k4.cut hm).1.up (dw hD)) e3 e4 (fun e=>by cases e) (.inr ⟨r,q,rfl,hR x (by simp) b (by rw[hx];simp[T.refs]) _ r k1 rfl,(Array.getElem?_eq_some_iff.1 k3).1,fun j hj=>?_⟩)
     have hj':j<n:=by simp at hj;omega
     rw[fU k3]
     simp
    ·exact h.elim
   ·exact h.elim
  ·next ps hx=>
   obtain⟨rs,h1,hlen,hrs⟩:=Ht (E:=E) h
   obtain⟨ds,dF,hK,hr⟩:=jJ (K:=fun l' _=>K (.row ps.length [.gen ps.length rs]::l') true) h1
   refine⟨.row ps.length [.gen ps.length rs]::ds,true,hK,fun S base w0 s' ρ a w hs g=>?_⟩
   obtain⟨h1,h2⟩:=hr S base w0 s' ρ a w (fun y hy=>hs y (by simp[hy])) g
   have hv:=g.ev x
   rw[(hs x (by simp)).1,hx]at hv
   obtain⟨vs,k1,r,k2,k3,k4,k5,k6,k7⟩:=hv
   have hrefs:(s.ev x).refs=ps.flatMap Pt.refs:=by rw[hx];rfl
   refine⟨fun D' hD hR=>.cons ?_ (h1 D' hD fun y hy=>hR y (by simp[hy])),fun e=>by cases e⟩
   rw[k2,k1.len]
   have hg:=hrs S base w0 s' ρ a w vs (fun b hb=>(hs x (by simp)).2 b (by rw[hrefs];exact hb)) g k1 D' hD (fun b hb=>hR x (by simp) b (by rw[hrefs];exact hb))
   exact .row (.iL hlen hg) (Nat.le_refl _) (by rw[<-k1.len];exact k4) (fun e=>by cases e) (.inr ⟨r,0,rfl,hD r k5,k6,fun i hi=>by rw[Nat.zero_add];exact k7 i hi⟩)
  ·exact h.elim
theorem bE3{G:Nat->Option (List Seg)}{base:Nat}{w0:W0 G}{s':St}{ρ:Nat->Option Value}{a:Act}(g:Good S base w0 s' ρ a w){t:T}{p:Pt}(h:TR s t=some p){v:Value}(hb:∀b∈t.refs,s'.bk b=s.bk b)(hb2:∀b∈t.refs,s'.bk b≠none)(hv:RT (Dt S base ρ) ρ w t v):
  RP (Dt S base ρ) ρ w p v/\p.refs=t.refs/\v.oneCell'=true:=by
 unfold TR at h
 split at h
 ·cases h;refine⟨hv,rfl,?_⟩;cases hv;rfl
 ·cases h;refine⟨hv,rfl,?_⟩;rw[RA.plain hv];rfl
 ·next b n=>
  split at h
  ·next e sz m l hk=>
   split at h
   ·next hn=>
    subst hn
    cases h
    refine⟨hv,rfl,?_⟩
    obtain⟨cs,h1,h2,h3⟩:=lM g ((hb b (by simp[T.refs])).trans hk) hv
    rcases h2.2 with⟨e1,_⟩|⟨_,_,_,e1,_⟩<;>rw[e1]<;>rfl
   ·cases h
  ·cases h
 ·next b base n=>
  cases h
  refine⟨hv,rfl,?_⟩
  obtain⟨u,hu⟩:=g.ref (hb2 b (by simp[T.refs]))
  obtain⟨r,c,_,h2,_⟩:=hv u hu
  rw[h2];rfl
 ·cases h
theorem Gy:∀{parts:List (Nat×Operand)} {k:Nat} {ps:List Pt},vL s parts k=some ps->
  ps.length=parts.length/\parts.map (·.1)=List.range' k parts.length/\(∀b∈ps.flatMap Pt.refs,∃x∈parts.map (·.2),b∈(s.ev x).refs)/\
  ∀(G:Nat->Option (List Seg)) (S:Nat->Prop) (base:Nat) (w0:W0 G) (s':St) (ρ:Nat->Option Value) (a:Act) (w:World),(∀x∈parts.map (·.2),s'.ev x=s.ev x/\∀b∈(s.ev x).refs,s'.bk b=s.bk b)->Good S base w0 s' ρ a w->
   QM (Dt S base ρ) ρ w ps (parts.map fun p=>a.eval p.2)/\∀v∈parts.map fun p=>a.eval p.2,v.oneCell'=true
 |[],k,ps,h=>by cases h;exact⟨rfl,rfl,by simp,fun _ _ _ _ _ _ _ _ _ _=>⟨.nil,by simp⟩⟩
 |(i,x)::r,k,ps,h=>by
  unfold vL at h
  split at h
  case isFalse=>cases h
  next hi=>
  subst hi
  split at h
  case h_2=>cases h
  next p l hp hl=>
  cases h
  obtain⟨h1,h2,h3,h4⟩:=Gy hl
  have href:p.refs=(s.ev x).refs:=by
   unfold TR at hp
   split at hp
   ·next e=>cases hp;rw[e];rfl
   ·next e=>cases hp;rw[e];rfl
   ·next e=>
    split at hp
    ·split at hp
     ·cases hp;rw[e];rfl
     ·cases hp
    ·cases hp
   ·next e=>cases hp;rw[e];rfl
   ·cases hp
  refine⟨by simp[h1],by simp[h2,List.range'_succ],?_,fun G S base w0 s' ρ a w hs g=>?_⟩
  ·intro b hb
   rw[List.flatMap_cons,List.mem_append]at hb
   rcases hb with hb|hb
   ·exact⟨x,by simp,by rw[<-href];exact hb⟩
   ·obtain⟨y,hy,hy2⟩:=h3 b hb
    exact⟨y,by rw[List.map_cons,List.mem_cons];exact .inr hy,hy2⟩
  ·obtain⟨k1,k2⟩:=h4 G S base w0 s' ρ a w (fun y hy=>hs y (by rw[List.map_cons,List.mem_cons];exact .inr hy)) g
   obtain⟨e1,e2⟩:=hs x (by simp)
   have hv:=g.ev x
   rw[e1]at hv
   obtain⟨q1,_,q3⟩:=bE3 g hp e2 (fun b hb=>g.nP x b (by rw[e1];exact hb)) hv
   refine⟨.cons q1 k1,fun v hv=>?_⟩
   rw[List.map_cons,List.mem_cons]at hv
   rcases hv with rfl|hv
   ·exact q3
   ·exact k2 v hv
theorem Jz:∀(vs:List Value) (k:Nat) (cs:Array Value),(∀v∈vs,v.oneCell'=true)->k+vs.length<=cs.size->
  ∃cs',Instr.fill (fun f=>some (f*1,1)) cs ((List.range' k vs.length).zip vs)=some cs'/\cs'.toList=cs.toList.take k++(vs++cs.toList.drop (k+vs.length))
 |[],k,cs,_,_=>⟨cs,by simp[Instr.fill],by simp⟩
 |v::vs,k,cs,h1,h2=>by
  have hv:v.cells=#[v]:=Pk (h1 v (by simp))
  have h2':k+(vs.length+1)<=cs.size:=by simpa using h2
  obtain⟨cs',h3,h4⟩:=Jz vs (k+1) (cs.setIfInBounds k v) (fun u hu=>h1 u (by simp[hu])) (by simp;omega)
  refine⟨cs',?_,?_⟩
  ·rw[List.length_cons,List.range'_succ,List.zip_cons_cons]
   unfold Instr.fill
   simp only[hv]
   have:¬((#[v]:Array Value).size≠1\/k*1+(#[v]:Array Value).size>cs.size):=by simp;omega
   simp only[ne_eq,Bool.or_eq_true,decide_eq_true_eq]
   rw[if_neg (by simpa using this)]
   simpa using h3
  ·rw[h4,Array.toList_setIfInBounds]
   have e1:(cs.toList.set k v).take (k+1)=cs.toList.take k++[v]:=by
    rw[List.take_set,List.take_succ_eq_append_getElem (by simp;omega)]
    rw[List.set_append_right _ _ (by simp;omega)]
    have:k- (cs.toList.take k).length=0:=by rw[List.length_take,Array.length_toList];omega
    rw[this];rfl
   rw[e1,List.append_assoc,List.drop_set_of_lt (by omega),show k+1+vs.length=k+(v::vs).length by simp;omega]
   rfl
theorem A9{len:Nat}{parts:Array (Nat×Operand)}{i j:TI}{ps:List Pt}(ho:o.op=.buildSlice t len parts)(hY:E.Y t=some i)(hs1:i.sl=true)(he:i.bY=1)(hl:len≠0)(hm:len*i.bY<=16777216)(hj:E.Y i.elem=some j)(hjs:dM j.zero=1)
  (hp:vL s parts.toList 0=some ps)(hpl:ps.length=len):cO E o s fr (.rows ps) none:=by
 obtain⟨h1,h2,h3,h4⟩:=Gy hp
 have hmem:∀x∈parts.toList.map (·.2),x∈o.op.operands:=fun x hx=>by
  rw[ho];simp only[Op.operands,List.mem_toArray]
  simpa using hx
 refine⟨fun b hb=>.inr ?_,fun b x e=>(by cases e),fun S base w0 s' ρ a w K' Q hs g hfr hlt hK'=>?_⟩
 ·obtain⟨x,hx,hx2⟩:=h3 b hb
  exact⟨x,hmem x hx,hx2⟩
 obtain⟨k1,k2⟩:=h4 _ S base w0 s' ρ a w (fun x hx=>⟨(hs x (hmem x hx)).1,fun b hb=>hs.bk (hmem x hx) (by simp[looks,ho]) hb⟩) g
 generalize hvs:parts.toList.map (fun p=>a.eval p.2)=vs at k1 k2
 have hvl:vs.length=len:=by rw[k1.len,hpl]
 obtain⟨f,z,q1,q2,_,q3,q4⟩:=(E.hY _ j hj).info
 obtain⟨_,f',q5,q6⟩:=(E.hY t i hY).arr (by omega)
 rw[q1]at q5;cases q5
 have hfs:f.size=1:=by rw[q6,he]
 have hu:=(E.hY t i hY).sl hs1
 obtain⟨cs',r1,r2⟩:=Jz vs 0 ((Array.range (len*f.size)).map (z.cells[·%z.cells.size]!)) k2 (by simp[hfs,hvl])
 have hparts:(parts.map fun(i,x)=>(i,a.eval x)).toList=(List.range' 0 vs.length).zip vs:=by
  rw[Array.toList_map,hvl,<-hpl,h1,<-h2,<-hvs]
  generalize parts.toList=l
  induction l with
  |nil=>rfl
  |cons x l ih=>simp[ih]
 have hr:=run_buildSlice (P:=E.P) w t i.elem len (parts.map fun(i,x)=>(i,a.eval x)) cs' f z hu q1 q3 (by rw[q6];omega) (by rw[q6];exact Nat.mul_ne_zero (by omega) (by omega)) (by
  rw[hparts,hfs];rw[hfs]at r1;exact r1)
 have hcs:cs'.toList=vs:=by
  rw[r2]
  rw[List.take_zero,List.nil_append,List.drop_of_length_le (by simp[hfs,hvl]),List.append_nil]
 have hgr:w.grownBy (w.alloc (.cells cs' i.elem)) none:=⟨rfl,rfl,rfl,by rw[size_alloc];omega,fun k hk _=>Below.heap_alloc _ _ _ hk⟩
 obtain⟨g2,K0⟩:=g.grow hgr
 unfold Oper.wp execOp
 simp only[ho,Sem.run_bind,hr,Result.andThen_ok,Sem.run_pure]
 refine hK' _ _ ρ (g2.put' o.dst (t:=.rows ps) ⟨vs,k1.map fun p _ v hv=>hv.up K0 fun _ _=>rfl,w.heap.size,?_,?_,?_,?_,?_,?_⟩ ?_)
 ·rw[hvl]
 ·intro e;rw[e]at hvl;exact hl (by simpa using hvl.symm)
 ·rw[hvl]
  unfold maxLen
  rw[he]at hm;omega
 ·exact⟨.inr g.size,fun b u hb hu=>by have:=(g.low b u _ hb hu).2;omega⟩
 ·rw[size_alloc];omega
 ·intro i' hi'
  have:=fU (w:=w.alloc (.cells cs' i.elem)) (r:=w.heap.size) (cs:=cs'.toList) (t:=i.elem) (fr:=(0,0)) (by exact heap_alloc_new _ _) i'
  rw[this,hcs]
  simp[hi']
 ·intro b hb
  obtain⟨x,hx,hx2⟩:=h3 b hb
  rw[<-(hs x (hmem x hx)).1]at hx2
  exact g.nP x b hx2
theorem VY{i j:TI}{n:Int}{q q':IntKind}(ho:o.op=.makeSlice t x y)(hY:E.Y t=some i)(hs1:i.sl=true)(he:i.bY≠0)(hx:s.ev x=.d (.v (.int q n)))(hy:s.ev y=.d (.v (.int q' n)))(h0:0<=n)(hm:n.toNat*i.bY<=16777216)(hj:E.Y i.elem=some j)(hjs:dM j.zero=i.bY)(hb:j.bytes*n.toNat<=281474976710656):
  cO E o s fr (.own fr n.toNat) (some (fr,.sl i.elem i.bY n.toNat (Nf n.toNat j.zero))):=by
 refine⟨fun b hb=>.inl ⟨by simpa[T.refs]using hb,_,rfl⟩,fun b x e=>by cases e;exact .inl rfl,fun S base w0 s' ρ a w K' Q hs g hfr hlt hK'=>?_⟩
 have h1:=bA hs g (by rw[ho];simp[Op.operands]) hx
 have h2:=bA hs g (by rw[ho];simp[Op.operands]) hy
 obtain⟨m,rfl⟩:=Int.eq_ofNat_of_zero_le h0
 rw[Int.toNat_natCast]at*
 obtain⟨f,z,q1,q2,q5,q3,q4⟩:=(E.hY _ j hj).info
 obtain⟨_,f',q6,q7⟩:=(E.hY t i hY).arr he
 rw[q1]at q6;cases q6
 have hu:=(E.hY t i hY).sl hs1
 have hz:=cZ (S:=Dt S base ρ) (w:=w) q4
 have hzl:z.cells.size=i.bY:=by have:=hz.len;rw[hjs]at this;simpa using this
 have h63:m<=maxLen:=by
  have:m<=m*i.bY:=Nat.le_mul_of_pos_right _ (Nat.pos_of_ne_zero he)
  unfold maxLen;omega
 obtain⟨w',r1,r2,r3⟩:=run_makeSlice_full (P:=E.P) w w.heap.size t i.elem f z i.bY hu q1 q3 q7 q q' m hm (by rw[q5];exact hb) h63 (Nat.le_refl _)
 have hρ:ρ fr=none:=by have:=g.b fr;rw[hfr]at this;exact this
 have hc:(madeCells z.cells (m*i.bY)).toList=(List.replicate m z.cells.toList).flatten:=by
  have:=uN z.cells (by rw[hzl];exact he) m
  rw[<-this,hzl]
  unfold madeCells
  rw[hzl]
 unfold Oper.wp execOp
 simp only[ho,h1,h2,Sem.run_bind,r1,Result.andThen_ok,Sem.run_pure]
 refine hK' _ _ _ (g.J5 hfr hlt r3 (cs:=(madeCells z.cells (m*i.bY)).toList) r2 ?_ o.dst)
 rw[hc]
 exact(hz.many m).up (Dt.new r3 (fun q hq=>by simp[Rl]at hq;omega) hρ)
theorem MO(l vs:List Value)(off N:Nat)(h:off+vs.length<=N)(h2:N<=l.length):(l.take off++(vs++l.drop (off+vs.length))).take N=(l.take N).take off++(vs++(l.take N).drop (off+vs.length)):=by
 rw[List.take_append,List.take_take,List.take_take,List.length_take,Nat.min_eq_left (by omega:off<=l.length),Nat.min_eq_right (by omega:off<=N),Nat.min_eq_left (by omega:off<=N)]
 congr 1
 rw[List.take_append,List.take_of_length_le (by omega),List.drop_take]
 congr 2
 omega
theorem Pj{i:TI}{b n off sz:Nat}{e:TypeId}{l l':List Seg}{d:A}(ho:o.op=.store t x y)(hY:E.Y t=some i)(hx:s.ev x=.BX b n off)(hk:s.bk b=some (.sl e sz n l))(hseg:n*sz=dM l)(hi:i.sz≠0)(hy:s.ev y=.d d)
  (hd:∀{S:Nat->Prop} {w:World} {cs:List Value} {v:Value},RL S w l cs->RA S w d v->
   v.cells.size=i.sz/\(∀u∈v.cells.toList,u.oneCell'=true)/\(0+off+i.sz<=cs.length\/i.sz=0)/\RL S w l' (cs.take (0+off)++(v.cells.toList++cs.drop (0+off+i.sz)))):
  cO E o s fr (.d (.v undef)) (some (b,.sl e sz n l')):=by
 have hm:x∈o.op.operands:=by rw[ho];simp[Op.operands]
 have hm2:y∈o.op.operands:=by rw[ho];simp[Op.operands]
 refine⟨fun b hb=>by simp[T.refs]at hb,fun b' x' e=>by cases e;exact .inr ⟨x,hm,by rw[hx];simp[T.refs]⟩,fun S base w0 s' ρ a w K Q hs g hf hlt hK=>?_⟩
 have hk':=(hs.bk hm (by simp[looks,ho]) (b:=b) (by rw[hx];simp[T.refs])).trans hk
 obtain⟨r,c,h1,h2⟩:=LB g hk' (bB hs g hm hx)
 obtain⟨u,cs,h3,h4,h5⟩:=g.slc hk'
 rw[h1]at h3;cases h3
 rcases h4.2 with⟨e1,_⟩|⟨r',cap,cur,e1,e3,e4,e5,e6,e7,e8⟩
 ·cases e1
 cases e1
 obtain⟨k1,k2,k3,k4⟩:=hd h5 (bB hs g hm2 hy)
 rw[Nat.zero_add]at k3 k4
 have hcl:=h4.1
 have hvl:(a.eval y).cells.toList.length=i.sz:=by rw[Array.length_toList,k1]
 have k3':off+i.sz<=n*sz:=by rcases k3 with k3|k3;rw[hcl]at k3;exact k3;exact absurd k3 hi
 have hcap:n*sz<=c*sz:=Nat.mul_le_mul_right _ e5
 have hw:w.heap[r]?=some (.cells cur.toList.toArray e (0,0)):=by rw[e4]
 have hrun:=pE (E.hY t i hY) k1 k2 hw (off:=off) (.inl (by rw[Array.length_toList,e7];omega))
 generalize hvs:(a.eval y).cells.toList=vs at*
 have zu:upd ρ b (some (.slice (some ⟨r,0,none⟩) n c))=ρ:=by
  funext z;unfold upd;split
  ·next e=>rw[e,h1]
  ·rfl
 have g2:=g.change b (sQ hk') (.slice (some ⟨r,0,none⟩) n c) (.sl e sz n l') (some r) (w':=w.setRow r (cur.toList.take off++(vs++cur.toList.drop (off+vs.length))).toArray)
  (kN (bH w _) _ (.inr rfl)) (by intro r' e;cases e;exact⟨_,h1,rfl⟩) (by
   intro r' e
   simp[Rl]at e;subst e
   exact⟨.inr ⟨_,h1,rfl⟩,by rw[size_setRow];exact(g.low b _ r h1 rfl).2⟩) (by
   rw[zu]
   intro K0
   refine⟨_,cs.take off++(vs++cs.drop (off+i.sz)),h1,⟨?_,.inr ⟨r,c,_,rfl,e3,setRow_heap _ _ _ _ _ _ hw,e5,e6,?_,?_⟩⟩,k4.up K0⟩
   ·simp only[List.length_append,List.length_take,List.length_drop,hvl,hcl];omega
   ·simp only[List.size_toArray,List.length_append,List.length_take,List.length_drop,Array.length_toList,hvl,e7];omega
   ·rw[List.toList_toArray,MO _ _ _ _ (by rw[hvl];exact k3') (by rw[Array.length_toList,e7];exact hcap),e8,hvl]) (by
   rw[zu]
   intro _ i hi hm
   refine(g.t i hi).up ⟨by rw[size_setRow];exact Nat.le_refl _,fun r' hr' hd=>⟨hd,fun o=>?_⟩⟩ (fun _ _=>rfl)
   exact World.cell?_of_block (setRow_other _ _ _ _ (fun e=>hd.2 b _ h1 (by simp[Rl];exact e.symm)))) (fun q hq=>by rw[h1]at hq;cases hq)
 rw[zu]at g2
 unfold Oper.wp
 have:(execOp a.eval o).run E.P w=.ok .skip (w.setRow r (cur.toList.take off++(vs++cur.toList.drop (off+vs.length))).toArray):=by
  simp only[execOp,ho,h2,Instr.storeAt,Instr.sureAddr,Sem.run_bind,Sem.run_pure,Result.andThen_ok,hrun]
 rw[this]
 exact hK _ _ _ (g2.put' o.dst (t:=.d (.v undef)) (.v undef) (by simp[T.refs]))
theorem Ke{op:BinOp}{t yt:TypeId}{p q:ByteArray}{r:Bool}(ho:o.op=.binOp op t x y yt)(hx:s.ev x=.d (.v (.string p)))(hy:s.ev y=.d (.v (.string q)))
  (hr:op=.eql/\r=(p.toList==q.toList)\/op=.neq/\r=(!(p.toList==q.toList))):cO E o s fr (.d (.v (.bool r))) none:=by
 refine .pure (fun b hb=>by simp[T.refs]at hb) fun S base w0 s' ρ a w hs g=>⟨_,?_,.v _⟩
 have h1:=bA hs g (by rw[ho];simp[Op.operands]) hx
 have h2:=bA hs g (by rw[ho];simp[Op.operands]) hy
 rcases hr with⟨rfl,rfl⟩|⟨rfl,rfl⟩
 ·simp[execOp,ho,h1,h2,Sem.run_bind,eqGuard,binOp,Op.stringOp,Op.equal,beq_toListBytes]
 ·simp[execOp,ho,h1,h2,Sem.run_bind,eqGuard,binOp,Op.stringOp,Op.equal,beq_toListBytes]
theorem YA{t yt:TypeId}{p q:ByteArray}(ho:o.op=.binOp .add t x y yt)(hx:s.ev x=.d (.v (.string p)))(hy:s.ev y=.d (.v (.string q)))
  (hn:p.size+q.size<=281474976710656):cO E o s fr (.d (.v (.string (p++q)))) none:=by
 refine .pure (fun b hb=>by simp[T.refs]at hb) fun S base w0 s' ρ a w hs g=>⟨_,?_,.v _⟩
 have h1:=bA hs g (by rw[ho];simp[Op.operands]) hx
 have h2:=bA hs g (by rw[ho];simp[Op.operands]) hy
 have h3:¬(((p.size+q.size:Nat):Int)>IntKind.i64.max):=by
  have:IntKind.i64.max=9223372036854775807:=by decide
  omega
 simp only[execOp,ho,h1,h2,Sem.run_bind,eqGuard,binOp,Op.stringOp,if_neg h3]
 simp
theorem bD1 {src dst : TypeId} {x : Operand} {i : TI} {k : KO} (ho : o.op = .convert src dst x) (hs' : E.Y src = some i) (hs1 : i.sl = true) (he : E.P.underlying i.elem = some (.int .u8)) (hd : E.P.underlying dst = some .string)
    (h : sP s [s.ev x] fun l _ => (match l with
       | [.row m news] => (match strOf news with | some b => b.size = m /\ m <= 140737488355328 /\ k (.d (.v (.string b))) none | none => False)
       | [.v (.slice none 0 0)] => k (.d (.v (.string .empty))) none
       | _ => False)) : ∃ t blk, k t blk /\ cO E o s fr t blk := by
  have hm : x ∈ o.op.operands := by rw [ho]; simp [Op.operands]
  have hu := (E.hY src i hs').sl hs1
  obtain ⟨ds, dF, h1, h2⟩ := jJ (E := E) (xs := [x]) (K := fun l _ => (match l with
       | [.row m news] => (match strOf news with | some b => b.size = m /\ m <= 140737488355328 /\ k (.d (.v (.string b))) none | none => False)
       | [.v (.slice none 0 0)] => k (.d (.v (.string .empty))) none
       | _ => False)) h
  have ac7 : ∀ {S : Nat -> Prop} {w : World} {d : A} {v : Value}, mH S w [d] [v] -> RA S w d v := by
    intro S w d v h; cases h with | cons h _ => exact h
  have hsame : ∀ {s' : St}, Same o s s' -> ∀ x' ∈ [x], s'.ev x' = s.ev x' /\ ∀ b ∈ (s.ev x').refs, s'.bk b = s.bk b := fun {s'} hs x' hx' => by
    rw [List.mem_singleton] at hx'; subst hx'
    exact ⟨(hs _ hm).1, fun b hb => hs.bk hm (by simp [looks, ho]) hb⟩
  split at h1
  · next m news =>
    split at h1
    · next b hb =>
      obtain ⟨hbm, hmm, hk⟩ := h1
      refine ⟨_, _, hk, .pure (fun b hb => by simp [T.refs] at hb) fun S base w0 s' ρ a w hs g => ⟨_, ?_, .v _⟩⟩
      have hv := ac7 ((h2 S base w0 s' ρ a w (hsame hs) g).1 (fun _ => True) (fun _ _ => trivial) (fun _ _ _ _ _ _ _ _ => trivial))
      generalize hx0 : a.eval x = v at hv
      have key : ∃ ad c bs, v = .slice ad m c /\ fP w ad m bs /\ ba1 bs = b := by
        cases hv with
        | row k1 k2 k3 k4 k5 =>
          rename_i c cs ad
          unfold strOf at hb
          split at hb
          · cases hb
            have : m = 0 := by rw [<- hbm]; rfl
            subst this
            exact ⟨ad, c, [], rfl, fP.nil _ _, rfl⟩
          · next n bs =>
            cases hb
            obtain ⟨e1, e2⟩ := k1.iZ
            have hbl : bs.length = m := by rw [<- hbm]; simp [ByteArray.size]
            refine ⟨ad, c, bs, rfl, ⟨hbl.symm, by unfold maxLen; omega, ?_⟩, rfl⟩
            rcases k5 with k5 | ⟨q, o', k6, _, _, k7⟩
            · left
              rw [e2] at k5
              exact List.map_eq_nil_iff.1 k5
            · refine .inr ⟨q, o', k6, fun i hi => ?_⟩
              subst e2
              rw [k7 i (by simpa [HL] using hi)]
              simp [HL]
          · cases hb
      obtain ⟨ad, c, bs, rfl, hr, hbs⟩ := key
      rw [<- hbs]
      have := hr.str (P := E.P) src dst i.elem c hu he hd
      simp only [execOp, ho, hx0, this, Sem.run_bind, Sem.run_pure, Result.andThen_ok]
    · exact h1.elim
  · next =>
    refine ⟨_, _, h1, .pure (fun b hb => by simp [T.refs] at hb) fun S base w0 s' ρ a w hs g => ⟨_, ?_, .v _⟩⟩
    have hv := RA.plain (ac7 ((h2 S base w0 s' ρ a w (hsame hs) g).1 (fun _ => True) (fun _ _ => trivial) (fun _ _ _ _ _ _ _ _ => trivial)))
    have := (fP.nil w none).str (P := E.P) src dst i.elem 0 hu he hd
    simp only [execOp, ho, hv, this, Sem.run_bind, Sem.run_pure, Result.andThen_ok]
    rfl
  · exact h1.elim
theorem Kg{c:Call}{mx:Bool}{q q':IntKind}{x y:Int}(ho:o.op=.call c)(hc:c.callee=.builtin (if mx then .max else .min))(ha:c.args.toList.map s.ev=[.d (.v (.int q x)),.d (.v (.int q' y))]):
  cO E o s fr (.d (.v (.int q (if mx then(if y>x then y else x)else(if y<x then y else x))))) none:=by
 obtain⟨p,r,hca,h1,h2⟩:∃p r,c.args=#[p,r]/\s.ev p=.d (.v (.int q x))/\s.ev r=.d (.v (.int q' y)):=by
  generalize hl:c.args.toList=l at ha
  rcases l with _|⟨p,_|⟨r,_|⟨r2,l⟩⟩⟩<;>simp only[List.map_cons,List.map_nil,List.cons.injEq,and_true,reduceCtorEq,and_false]at ha
  refine⟨p,r,?_,ha.1,ha.2⟩
  apply Array.ext';rw[hl]
 refine .pure (fun b hb=>by simp[T.refs]at hb) fun S base w0 s' ρ a w hs g=>⟨_,?_,.v _⟩
 have e1:=bA hs g (by rw[ho];simp[Op.operands,Call.operands,hc,hca]) h1
 have e2:=bA hs g (by rw[ho];simp[Op.operands,Call.operands,hc,hca]) h2
 cases mx with
 |true=>simp[execOp,ho,hc,hca,resolve,invoke,builtin,Sem.run_bind,e1,e2,run_max_int2]
 |false=>simp[execOp,ho,hc,hca,resolve,invoke,builtin,Sem.run_bind,e1,e2,run_min_int2]
theorem aV7{i:TI}{b base rel:Nat}(ho:o.op=.slice t x none none none)(hY:E.Y t=some i)(hl:i.len≠0)(he:i.bY=1)(hm:i.len<=1000000)(hx:s.ev x=.xg b base rel):cO E o s fr (.win b (base+rel) i.len) none:=by
 have hm1:x∈o.op.operands:=by rw[ho];simp[Op.operands]
 refine .pure (fun b' hb'=>⟨x,hm1,by rw[hx];simpa[T.refs]using hb'⟩) fun S base0 w0 s' ρ a w hs g=>?_
 obtain⟨u,hu⟩:=g.ref (g.nP x b (by rw[(hs x hm1).1,hx];simp[T.refs]))
 obtain⟨r,hR,h2⟩:=bB hs g hm1 hx u hu
 obtain⟨_,f,h4,h5⟩:=(E.hY t i hY).arr (by omega)
 have hua:=(E.hY t i hY).QX hl
 refine⟨.slice (some ⟨r,base+rel,none⟩) i.len i.len,?_,fun u' hu'=>?_⟩
 ·simp only[execOp,ho,h2,Instr.sliceAt,Instr.sureAddr,Instr.sliceBounds,Option.map_none,Sem.run_bind,Sem.run_pure,Result.andThen_ok,run_underlying hua w,run_sizeOf w h4,Nat.zero_mul,Nat.sub_zero,mP,Nat.add_zero]
  simp
 ·rw[hu]at hu';cases hu'
  exact⟨r,i.len,hR,rfl,Nat.le_refl _,by unfold maxLen;omega⟩
theorem aV4{c:Call}{t t':TypeId}{i:TI}{b base n:Nat}{l l':List Seg}(ho:o.op=.call c)(hc:c.callee=.builtin .copy)(ha:c.args.toList=[x,y])(ht:c.argTypes.toList=[t,t'])(hY:E.Y t=some i)(hs1:i.sl=true)(he:i.bY=1){m:Nat}{news:List Seg}
  (hsrc:∀(S:Nat->Prop) (base:Nat) (w0:W0 E.G) (s':St) (ρ:Nat->Option Value) (a:Act) (w:World),s'.ev y=s.ev y->(∀b∈(s.ev y).refs,s'.bk b=s.bk b)->Good S base w0 s' ρ a w->
   ∃ad c cs,a.eval y=.slice ad m c/\RL (Dt S base ρ) w news cs/\((ad=none/\c=0/\m=0/\cs=[])\/∃a',ad=some a'/\∀j u,cs[j]?=some u->w.cell? (a'.add j)=some u))
  (hseg:dM news=m)(hx:s.ev x=.win b base n)(hk:s.bk b=some (.var l))(hmn:m<=n)
  (hd:∀{S:Nat->Prop} {w:World} {cs:List Value} {v:Value},RL S w l cs->RA S w (.agg news) v->
   v.cells.size=m/\(∀u∈v.cells.toList,u.oneCell'=true)/\(base+m<=cs.length\/m=0)/\RL S w l' (cs.take base++(v.cells.toList++cs.drop (base+m)))):
  cO E o s fr (.d (.v (.int .i64 m))) (some (b,.var l')):=by
 have hca:c.args=#[x,y]:=by cases hq:c.args;simp_all
 have hct:c.argTypes=#[t,t']:=by cases hq:c.argTypes;simp_all
 have hmx:x∈o.op.operands:=by rw[ho];simp[Op.operands,Call.operands,hc,hca]
 have IV:y∈o.op.operands:=by rw[ho];simp[Op.operands,Call.operands,hc,hca]
 have hlk:looks o=true:=by simp[looks,ho]
 refine⟨fun q hq=>by simp[T.refs]at hq,fun q z e=>by cases e;exact .inr ⟨x,hmx,by rw[hx];simp[T.refs]⟩,fun S base0 w0 s' ρ a w K' Q hs g hfr hlt hK'=>?_⟩
 obtain⟨ad,c',ns,h1,h2,h3⟩:=hsrc S base0 w0 s' ρ a w (hs y IV).1 (fun q hq=>hs.bk IV hlk hq) g
 have hbk:s'.bk b=some (.var l):=(hs.bk hmx hlk (by rw[hx];simp[T.refs])).trans hk
 obtain⟨r,cs,ty,k1,k2,k3,k4⟩:=g.var hbk
 obtain⟨r',cap,k5,k6,_⟩:=bB hs g hmx hx _ k1
 obtain rfl:=k5.ptr
 obtain⟨_,f,h5,h6⟩:=(E.hY t i hY).arr (by omega)
 have hu:=(E.hY t i hY).sl hs1
 obtain⟨d1,d2,d3,d4⟩:=hd k4 (.agg h2)
 have hns:ns.length=m:=by rw[h2.len,hseg]
 have e0:(Value.agg ns.toArray).cells.toList=ns:=by simp[Value.cells]
 rw[e0]at d2 d4
 have hmin:ns.length=Nat.min m n:=by rw[hns];exact(Nat.min_eq_left hmn).symm
 have hfin:∀{w'},(Builtin.copy_ #[t,t'] o.type #[a.eval x,a.eval y]).run E.P w=.ok (goInt m) w'->(w'=w.setRow r (cs.take base++(ns++cs.drop (base+ns.length))).toArray)->o.wp E.P a w K' Q:=by
  intro w' hr e
  subst e
  unfold Oper.wp execOp
  simp only[ho,hc,hca,hct,resolve,invoke,builtin,Sem.run_bind,Sem.run_pure,Result.andThen_ok,List.map_toArray,List.map_cons,List.map_nil,hr]
  exact hK' _ _ _ ((g.store hbk k1 k3 (off:=base) (vs:=ns) (l':=l') (by rw[hns];exact d4)).put' o.dst (t:=.d (.v (.int .i64 m))) (.v _) (by simp[T.refs]))
 have hsz:(E.P.info? i.elem).map (·.size)=some 1:=by rw[h5,<-he,<-h6];rfl
 by_cases hm:m=0
 ·have hn0:ns=[]:=List.length_eq_zero_iff.1 (hns.trans hm)
  refine hfin (w':=w) ?_ ?_
  ·rw[k6,h1,hm]
   exact run_copy_none w t t' o.type i.elem _ _ n cap 0 c' hu hsz (Nat.zero_min n)
  ·subst hn0
   simp only[List.length_nil,Nat.add_zero,List.nil_append,List.take_append_drop]
   exact(setRow_self w r _ ty (0,0) k3).symm
 ·rcases h3 with⟨_,_,h,_⟩|⟨a',rfl,h12⟩
  ·exact absurd h hm
  ·have hfit:base+ns.length<=cs.toArray.size:=by
    rw[List.size_toArray,hns];exact d3.resolve_right hm
   refine hfin (w':=w.setRow r (cs.take base++(ns++cs.drop (base+ns.length))).toArray) ?_ rfl
   have hr:=run_copy_row (P:=E.P) w t t' o.type i.elem r base n cap a' m c' cs.toArray ty ns hu hsz k3 hmin h12 hfit d2
   rw[k6,h1,hr,hns,List.append_assoc]
end
end
end Go.Proofs.YtegalalmamofdaaGreatDoor
