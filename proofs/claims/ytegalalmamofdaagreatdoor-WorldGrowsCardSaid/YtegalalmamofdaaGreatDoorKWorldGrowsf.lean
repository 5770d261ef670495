/- -/
import Derived.Test.YtegalalmamofdaaGreatDoorKWorldGrows
import Derived.Test.YtegalalmamofdaaGreatDoorKWorldGrowsc
namespace Go.Proofs.YtegalalmamofdaaGreatDoor
set_option linter.all false
set_option maxRecDepth 100000
open Go.RowKit
variable{zs ops vs:List Int}{i m k n:Nat}{fr a b:Int}{s:Vw}{p q:PS}{h:List UInt8}
section
open Pm
theorem qd{zs xs:List Int}(hz:zs.length=31)(hx:xs.length=2)(hi:i<8)(hm:16<=m):(fM zs xs (i:Nat)).getD m 0=if m=16+n1 (i:Nat)\/m=16+n2 (i:Nat)\/m=23 then 0 else zs.getD m 0:=by
 have hlb:aL (i:Int)=true:=by simp[aL];omega
 have hl:(zs.take (i*2)++(xs++zs.drop (i*2+2))).length=31:=by simp[hx,hz];omega
 have e0:(zs.take (i*2)++(xs++zs.drop (i*2+2))).getD m 0=zs.getD m 0:=by rw[zO hx (by omega),if_neg (by omega)]
 unfold fM
 rw[if_pos hlb,Int.toNat_natCast,aB,aB,aB,e0]
 simp only[List.length_set,hl]
 unfold n1 n2
 by_cases e1:m=23
 ·rw[if_pos ⟨e1.symm,by decide⟩,if_pos (.inr (.inr e1))]
 ·rw[if_neg (fun h=>e1 h.1.symm)]
  by_cases e2:m=16+((i:Int) / 4*8+3).toNat
  ·rw[if_pos ⟨e2.symm,by omega⟩,if_pos (.inr (.inl e2))]
  ·rw[if_neg (fun h=>e2 h.1.symm)]
   by_cases e3:m=16+((i:Int) / 2*4+1).toNat
   ·rw[if_pos ⟨e3.symm,by omega⟩,if_pos (.inl e3)]
   ·rw[if_neg (fun h=>e3 h.1.symm),if_neg (by rintro(h|h|h);exact e3 h;exact e2 h;exact e1 h)]
theorem Nu(hz:zs.length=31)(fr sl a b c:Int):(qY zs fr sl a b c).length=31:=by unfold qY;simp[hz]
theorem qB(hz:zs.length=31)(f0:0<=fr)(f1:fr<8)(sl a b c:Int)(m:Nat):(qY zs fr sl a b c).getD m 0=if m=23 then c else if m=16+n2 fr then b else if m=16+n1 fr then a else if m=fr.toNat*2+1 then sl else zs.getD m 0:=by
 unfold qY
 rw[aB,aB,aB,aB]
 simp only[List.length_set,hz]
 unfold n1 n2
 by_cases e1:m=23
 ·rw[if_pos ⟨e1.symm,by decide⟩,if_pos e1]
 ·rw[if_neg (fun h=>e1 h.1.symm),if_neg e1]
  by_cases e2:m=16+(fr / 4*8+3).toNat
  ·rw[if_pos ⟨e2.symm,by omega⟩,if_pos e2]
  ·rw[if_neg (fun h=>e2 h.1.symm),if_neg e2]
   by_cases e3:m=16+(fr / 2*4+1).toNat
   ·rw[if_pos ⟨e3.symm,by omega⟩,if_pos e3]
   ·rw[if_neg (fun h=>e3 h.1.symm),if_neg e3]
    by_cases e4:m=fr.toNat*2+1
    ·rw[if_pos ⟨e4.symm,by omega⟩,if_pos e4]
    ·rw[if_neg (fun h=>e4 h.1.symm),if_neg e4]
structure Keep(zs0:List Int)(j:Nat)(s:Vw):Prop where
 zl:s.zs.length=31
 nl:s.ng.length=8
 gl:s.gn.length=8
 or:s.gn.getD j false=true\/(eH s.zs j=true/\bZ s.zs j=bZ zs0 j/\s.ng.getD j false=false)
theorem Keep.step{zs0:List Int}{j:Nat}(hj:j<8)(h:Keep zs0 j s)(fr:Int){o:List Int}(he:je s fr o=0):Keep zs0 j (iQ s o):=by
 obtain⟨h1,h2,h3,h4⟩:=h
 unfold iQ
 unfold je at he
 by_cases k1:o.getD 0 0=1
 ·rw[if_pos k1]at he ⊢
  obtain⟨hf,hi1,hi2⟩:=errAdd_0 he
  obtain⟨Sm,hfm⟩:=Av hf
  refine⟨oP h1 rfl,by simp[h2],h3,?_⟩
  rcases h4 with h4|⟨h5,h6,h7⟩
  ·exact .inl h4
  ·have hne:j≠jv s.zs:=fun e=>by rw[<-e,h5]at hfm;cases hfm
   refine .inr ⟨?_,?_,?_⟩
   ·rw[qI h1 rfl Sm hj,if_neg hne];exact h5
   ·rw[qo h1 rfl Sm hj,if_neg hne];exact h6
   ·show(s.ng.set (jv s.zs) true).getD j false=false
    rw[kM,if_neg (fun e=>hne e.1.symm)];exact h7
 rw[if_neg k1]at he ⊢
 by_cases k2:o.getD 0 0=2
 ·rw[if_pos k2]at he ⊢
  unfold j5 at he
  have hw:¬(o.getD 1 0=fr\/dS s.zs (o.getD 1 0)=false):=fun hx=>by rw[if_pos hx]at he;cases he
  have hm:dS s.zs (o.getD 1 0)=true:=by
   cases hq:dS s.zs (o.getD 1 0)with
   |true=>rfl
   |false=>exact(hw (.inr hq)).elim
  obtain⟨hb0,hb1⟩:=kP hm
  obtain⟨n,hn⟩:=Int.eq_ofNat_of_zero_le hb0
  rw[hn]at hb1 ⊢
  refine⟨oP h1 rfl,by simp[h2],by simp[h3],?_⟩
  by_cases hne:j=n
  ·left
   show(s.gn.set (n:Int).toNat true).getD j false=true
   rw[Int.toNat_natCast,kM,if_pos ⟨hne.symm,by omega⟩]
  ·rcases h4 with h4|⟨h5,h6,h7⟩
   ·left
    show(s.gn.set (n:Int).toNat true).getD j false=true
    rw[Int.toNat_natCast,kM,if_neg (fun e=>hne e.1.symm)];exact h4
   ·refine .inr ⟨?_,?_,?_⟩
    ·rw[qI h1 rfl (by omega) hj,if_neg hne];exact h5
    ·rw[qo h1 rfl (by omega) hj,if_neg hne];exact h6
    ·show(s.ng.set (n:Int).toNat false).getD j false=false
     rw[Int.toNat_natCast,kM,if_neg (fun e=>hne e.1.symm)];exact h7
 rw[if_neg k2]
 by_cases k3:o.getD 0 0=3
 ·rw[if_pos k3];exact⟨h1,h2,h3,h4⟩
 rw[if_neg k3]
 by_cases k4:o.getD 0 0=4
 ·rw[if_pos k4];exact⟨h1,h2,h3,h4⟩
 rw[if_neg k4]
 exact⟨h1,h2,h3,h4⟩
structure Goes(zs0:List Int)(s:Vw):Prop where
 zl:s.zs.length=31
 al:s.ad.length=8
 nl:s.ng.length=8
 t:wQ s.zs=true
 adm:oq s.zs s.ad 8=true
 k:1<=s.k
 nd:∀m,16<=m->s.zs.getD m 0=0\/s.zs.getD m 0=zs0.getD m 0
 new:∀j,j<8->s.ng.getD j false=true->eH s.zs j=true/\s.zs.getD (16+n1 (j:Nat)) 0=0/\s.zs.getD (16+n2 (j:Nat)) 0=0/\s.zs.getD 23 0=0
theorem Es(zs:List Int):wQ zs=true↔(∀k,k<8->gM zs k=true)/\∀k,k<15->jC zs k=true:=by
 unfold wQ
 rw[Bool.and_eq_true,List.all_eq_true,List.all_eq_true]
 simp only[List.mem_range]
theorem J3(h:bZ zs k=[a,b])(ha:dL a=true)(hb:dL b=true):gM zs k=true:=by
 unfold gM;rw[h];simp[ha,hb]
theorem OL(h:bZ zs k=[0,0]):gM zs k=true:=by
 unfold gM;rw[h];rfl
theorem J2{zs zs':List Int}(h:bZ zs k=bZ zs' k):gM zs k=gM zs' k:=by
 unfold gM;rw[h]
theorem Gf(hk:k<15):jC zs k=(decide (zs.getD (16+k) 0=0)||(!((k:Int).tmod 2==0)&&dL (zs.getD (16+k) 0))):=by
 unfold jC;rw[au6 zs hk]
theorem OG{zs xs:List Int}(hz:zs.length=31)(h:wQ zs=true)(hi:i<8)(hx:xs=[0,0]\/∃a b,xs=[a,b]/\dL a=true/\dL b=true):wQ (fM zs xs (i:Nat))=true:=by
 have hx2:xs.length=2:=by rcases hx with rfl|⟨a,b,rfl,_⟩<;>rfl
 obtain⟨h1,h2⟩:=(Es zs).1 h
 refine(Es _).2 ⟨fun k hk=>?_,fun k hk=>?_⟩
 ·have e:=qo hz hx2 hi hk
  by_cases hki:k=i
  ·rw[if_pos hki]at e
   rcases hx with rfl|⟨a,b,rfl,ha,hb⟩
   ·exact OL e
   ·exact J3 e ha hb
  ·rw[if_neg hki]at e
   rw[J2 e];exact h1 k hk
 ·have:=h2 k hk
  rw[Gf hk]at this ⊢
  rw[qd hz hx2 hi (by omega)]
  split
  ·rfl
  ·exact this
theorem VQ(h:bZ zs k=[a,b])(ha:dL a=true):eH zs k=true:=by
 unfold eH;rw[h]
 have:=Cg ha
 simp[this]
theorem Goes.step{zs0:List Int}(h:Goes zs0 s)(fr:Int){o:List Int}(he:je s fr o=0):Goes zs0 (iQ s o):=by
 have hinv:Inv s:=⟨h.adm,h.zl,h.al⟩
 have hnx:=SS hinv fr he
 obtain⟨h1,h2,h3,h4,h5,h6,h7,h8⟩:=h
 refine⟨hnx.zl,hnx.al,?_,?_,hnx.adm,?_,?_,?_⟩<;>unfold iQ<;>unfold je at he<;>by_cases k1:o.getD 0 0=1
 ·rw[if_pos k1];simp[h3]
 ·rw[if_neg k1];split
  ·simp[h3]
  ·split
   ·exact h3
   ·split<;>exact h3
 ·rw[if_pos k1]at he ⊢
  obtain⟨hf,hi1,hi2⟩:=errAdd_0 he
  obtain⟨Sm,hfm⟩:=Av hf
  exact OG h1 h4 Sm (.inr ⟨_,_,rfl,hi1,hi2⟩)
 ·rw[if_neg k1]at he ⊢
  by_cases k2:o.getD 0 0=2
  ·rw[if_pos k2]at he ⊢
   unfold j5 at he
   have hm:dS s.zs (o.getD 1 0)=true:=by
    cases hq:dS s.zs (o.getD 1 0)with
    |true=>rfl
    |false=>rw[if_pos (.inr hq)]at he;cases he
   obtain⟨hb0,hb1⟩:=kP hm
   obtain⟨n,hn⟩:=Int.eq_ofNat_of_zero_le hb0
   rw[hn]at hb1 ⊢
   exact OG h1 h4 (by omega) (.inl rfl)
  ·rw[if_neg k2];split
   ·exact h4
   ·split<;>exact h4
 ·rw[if_pos k1];exact h6
 ·rw[if_neg k1]at he ⊢
  split
  ·exact h6
  ·next k2=>
   rw[if_neg k2]at he
   split
   ·exact h6
   ·next k3=>
    rw[if_neg k3]at he
    split
    ·exact h6
    ·next k4=>
     rw[if_neg k4]at he
     unfold nO at he
     show 1<=o.getD 2 0
     by_cases hk:o.getD 2 0<1\/o.getD 2 0>8
     ·rw[if_pos hk]at he;cases he
     ·omega
 ·rw[if_pos k1]at he ⊢
  obtain⟨hf,hi1,hi2⟩:=errAdd_0 he
  obtain⟨Sm,hfm⟩:=Av hf
  intro m hm
  show(fM s.zs _ _).getD m 0=0\/(fM s.zs _ _).getD m 0=_
  rw[qd h1 rfl Sm hm]
  split
  ·exact .inl rfl
  ·exact h7 m hm
 ·rw[if_neg k1]at he ⊢
  by_cases k2:o.getD 0 0=2
  ·rw[if_pos k2]at he ⊢
   unfold j5 at he
   have hm:dS s.zs (o.getD 1 0)=true:=by
    cases hq:dS s.zs (o.getD 1 0)with
    |true=>rfl
    |false=>rw[if_pos (.inr hq)]at he;cases he
   obtain⟨hb0,hb1⟩:=kP hm
   obtain⟨n,hn⟩:=Int.eq_ofNat_of_zero_le hb0
   rw[hn]at hb1 ⊢
   intro m hm
   show(fM s.zs _ _).getD m 0=0\/(fM s.zs _ _).getD m 0=_
   rw[qd h1 rfl (by omega) hm]
   split
   ·exact .inl rfl
   ·exact h7 m hm
  ·rw[if_neg k2];split
   ·exact h7
   ·split<;>exact h7
 ·rw[if_pos k1]at he ⊢
  obtain⟨hf,hi1,hi2⟩:=errAdd_0 he
  obtain⟨Sm,hfm⟩:=Av hf
  intro j hj Cc
  have Cc:(s.ng.set (jv s.zs) true).getD j false=true:=Cc
  show eH (fM s.zs _ _) j=true/\(fM s.zs _ _).getD _ 0=0/\(fM s.zs _ _).getD _ 0=0/\(fM s.zs _ _).getD _ 0=0
  rw[qd h1 rfl Sm (by omega),qd h1 rfl Sm (by omega),qd h1 rfl Sm (by omega)]
  by_cases hje:j=jv s.zs
  ·subst hje
   refine⟨VQ (by rw[qo h1 rfl Sm Sm,if_pos rfl]) hi1,?_,?_,?_⟩
   ·rw[if_pos (.inl rfl)]
   ·rw[if_pos (.inr (.inl rfl))]
   ·rw[if_pos (.inr (.inr rfl))]
  ·rw[kM,if_neg (fun e=>hje e.1.symm)]at Cc
   obtain⟨a1,a2,a3,a4⟩:=h8 j hj Cc
   refine⟨by rw[qI h1 rfl Sm hj,if_neg hje];exact a1,?_,?_,?_⟩
   ·split
    ·rfl
    ·exact a2
   ·split
    ·rfl
    ·exact a3
   ·split
    ·rfl
    ·exact a4
 ·rw[if_neg k1]at he ⊢
  by_cases k2:o.getD 0 0=2
  ·rw[if_pos k2]at he ⊢
   unfold j5 at he
   have hm:dS s.zs (o.getD 1 0)=true:=by
    cases hq:dS s.zs (o.getD 1 0)with
    |true=>rfl
    |false=>rw[if_pos (.inr hq)]at he;cases he
   obtain⟨hb0,hb1⟩:=kP hm
   obtain⟨n,hn⟩:=Int.eq_ofNat_of_zero_le hb0
   rw[hn]at hb1 ⊢
   intro j hj Cc
   have Cc:(s.ng.set (n:Int).toNat false).getD j false=true:=Cc
   rw[Int.toNat_natCast]at Cc
   show eH (fM s.zs _ _) j=true/\(fM s.zs _ _).getD _ 0=0/\(fM s.zs _ _).getD _ 0=0/\(fM s.zs _ _).getD _ 0=0
   rw[qd h1 rfl (by omega) (by omega),qd h1 rfl (by omega) (by omega),qd h1 rfl (by omega) (by omega)]
   by_cases hje:j=n
   ·subst hje
    rw[kM,if_pos ⟨rfl,by omega⟩]at Cc
    cases Cc
   ·rw[kM,if_neg (fun e=>hje e.1.symm)]at Cc
    obtain⟨a1,a2,a3,a4⟩:=h8 j hj Cc
    refine⟨by rw[qI h1 rfl (by omega) hj,if_neg hje];exact a1,?_,?_,?_⟩
    ·split
     ·rfl
     ·exact a2
    ·split
     ·rfl
     ·exact a3
    ·split
     ·rfl
     ·exact a4
  ·rw[if_neg k2];split
   ·exact h8
   ·split<;>exact h8
theorem uO{e:Int}{ad:List Bool}{k:Int}:gF e zs ad k=true↔0<=e/\e<=1099511627776/\wQ zs=true/\oq zs ad 8=true/\1<=k/\k<=((mJ ad:Nat):Int):=by
 unfold gF
 simp only[Bool.and_eq_true,decide_eq_true_eq]
 constructor
 ·rintro⟨⟨⟨⟨⟨a,b⟩,c⟩,d⟩,e⟩,f⟩;exact⟨a,b,c,d,e,f⟩
 ·rintro⟨a,b,c,d,e,f⟩;exact⟨⟨⟨⟨⟨a,b⟩,c⟩,d⟩,e⟩,f⟩
theorem En{e:Int}{ad:List Bool}{k:Int}(hz:zs.length=31)(ha:ad.length=8)(h:(fC e ⟨zs,ad,k,F8,F8⟩ fr ops n).1=0):
  Goes zs (fC e ⟨zs,ad,k,F8,F8⟩ fr ops n).2/\(fC e ⟨zs,ad,k,F8,F8⟩ fr ops n).2.k<=((mJ (fC e ⟨zs,ad,k,F8,F8⟩ fr ops n).2.ad:Nat):Int)/\gF e zs ad k=true/\dS zs fr=true:=by
 obtain⟨h1,h2,h3,h4,h5,h6,h7⟩:=Ai h
 obtain⟨_,_,m3,m4,m5,_⟩:=uO.1 h1
 rw[h6]
 refine⟨vv (I:=Goes zs) (fun s o hs he=>hs.step fr he) _ _ _ ⟨hz,ha,rfl,m3,m4,m5,fun m _=>.inr rfl,fun j hj hn=>?_⟩ h5,h7,h1,h4⟩
 have:F8.getD j false=false:=by rcases j with _|_|_|_|_|_|_|_|j<;>first|rfl|omega
 rw[show(⟨zs,ad,k,F8,F8⟩:Vw).ng=F8 from rfl,this]at hn
 cases hn
theorem aS8{e:Int}{ad:List Bool}{k:Int}(hz:zs.length=31){j:Nat}(hj:j<8)(hm:eH zs j=true)(h:(fC e ⟨zs,ad,k,F8,F8⟩ fr ops n).1=0):Keep zs j (fC e ⟨zs,ad,k,F8,F8⟩ fr ops n).2:=by
 obtain⟨h1,h2,h3,h4,h5,h6,h7⟩:=Ai h
 rw[h6]
 have:F8.getD j false=false:=by rcases j with _|_|_|_|_|_|_|_|j<;>first|rfl|omega
 exact vv (I:=Keep zs j) (fun s o hs he=>hs.step hj fr he) _ _ _ ⟨hz,rfl,rfl,.inr ⟨hm,rfl,this⟩⟩ h5
end
section
open Pm
def ZR(l:List (Int×Int))(i:Nat):Nat:=l.countP fun p=>bf p.2 (i:Int)
theorem XL(bt:List Bool)(k:Int)(r:List Int)(i:Nat):ZR (eZ bt k r) i=(r.filter fun m=>!tV bt m).countP fun m=>bf m (i:Int):=by
 unfold ZR eZ
 rw[List.countP_map]
 rfl
theorem Hw{x i:Nat}(hx:x<8)(hi:i<8)(hne:i≠x):(if bf ((dx x).getD 0 0) i=true then 1 else 0)+(if bf ((dx x).getD 1 0) i=true then 1 else 0)+(if bf ((dx x).getD 2 0) i=true then 1 else 0)=1/\
  ∀k<3,bf ((dx x).getD k 0) i=true->(Km x).getD k 0=bg x i:=by
 have hx2:x=0\/x=1\/x=2\/x=3\/x=4\/x=5\/x=6\/x=7:=by omega
 have hi2:i=0\/i=1\/i=2\/i=3\/i=4\/i=5\/i=6\/i=7:=by omega
 clear hx hi
 rcases hx2 with rfl|rfl|rfl|rfl|rfl|rfl|rfl|rfl<;>rcases hi2 with rfl|rfl|rfl|rfl|rfl|rfl|rfl|rfl<;>first|exact absurd rfl hne|decide
theorem zD(zs:List Int)(bt:List Bool)(k s:Int)(hi:i<8):ZR (eZ bt k (eu 3 zs s)) i<=(if bf s (i:Int)=true then 1 else 0)/\(bt.getD i false=false->bf s (i:Int)=true->zs.getD (i*2+1) 0≠0->ZR (eZ bt k (eu 3 zs s)) i=1):=by
 obtain⟨h1,h2⟩:=Ju zs hi 3 s (by simp[okD])
 rw[XL]
 have hle:((eu 3 zs s).filter fun m=>!tV bt m).countP (fun m=>bf m (i:Int))<=(eu 3 zs s).countP fun m=>bf m (i:Int):=by
  rw[List.countP_filter]
  exact List.countP_mono_left fun m _ h=>by simp at h;exact h.1
 refine⟨yLt hle h1,fun hb hu hk=>?_⟩
 have e:=h2 hu (by rw[JY zs hi];exact hk)
 rw[<-e]
 unfold cu
 rw[List.countP_filter]
 refine List.countP_congr fun m hm=>?_
 obtain⟨m0,m1⟩:=tL zs 3 s m hm
 constructor
 ·intro h;simp at h;exact h.1
 ·intro h
  have hs:tV bt m=false:=by
   cases hq:tV bt m with
   |false=>rfl
   |true=>
    exfalso
    unfold tV at hq
    rw[Int.tdiv_eq_ediv_of_nonneg m0,Int.tmod_eq_emod_of_nonneg m0]at hq
    simp only[Bool.and_eq_true,decide_eq_true_eq]at hq
    have hn:jW m=false:=by simp[jW];omega
    rw[Ih hn hi]at h
    have hm2:m=2*(i:Int):=by simpa using h
    have:(m / 2).toNat=i:=by omega
    rw[this,hb]at hq
    simp at hq
  simp[h,hs]
theorem Mq(zs:List Int)(bt:List Bool){x i:Nat}(hx:x<8)(hi:i<8)(hne:i≠x):ZR (dP zs bt x 3) i<=1/\(bt.getD i false=false->zs.getD (i*2+1) 0≠0->ZR (dP zs bt x 3) i=1):=by
 obtain⟨s1,_⟩:=Hw hx hi hne
 have e:ZR (dP zs bt x 3) i=ZR (eZ bt 0 (eu 3 zs ((dx x).getD 0 0))) i+ZR (eZ bt 1 (eu 3 zs ((dx x).getD 1 0))) i+ZR (eZ bt 2 (eu 3 zs ((dx x).getD 2 0))) i:=by
  simp[dP,ZR,Nat.add_assoc]
 obtain⟨a1,a2⟩:=zD zs bt 0 ((dx x).getD 0 0) hi
 obtain⟨b1,b2⟩:=zD zs bt 1 ((dx x).getD 1 0) hi
 obtain⟨c1,c2⟩:=zD zs bt 2 ((dx x).getD 2 0) hi
 rw[e]
 refine⟨by omega,fun hb hk=>?_⟩
 cases ha:bf ((dx x).getD 0 0) i<;>cases hbb:bf ((dx x).getD 1 0) i<;>cases hc:bf ((dx x).getD 2 0) i<;>simp only[ha,hbb,hc,if_true,Bool.false_eq_true,if_false]at s1 a1 b1 c1<;>first|omega|(have:=a2 hb ha hk;omega)|(have:=b2 hb hbb hk;omega)|(have:=c2 hb hc hk;omega)
theorem Kn(zs:List Int)(bt:List Bool){x i:Nat}(hx:x<8)(hi:i<8)(hne:i≠x):∀n≤3,∀p∈dP zs bt x n,(0<=p.1/\p.1<=2)/\(bf p.2 (i:Int)=true->(Km x).getD p.1.toNat 0=bg x i)
 |0,_,p,hp=>by simp[dP]at hp
 |n+1,hn,p,hp=>by
  rw[dP,List.mem_append]at hp
  rcases hp with hp|hp
  ·exact Kn zs bt hx hi hne n (by omega) p hp
  ·unfold eZ at hp
   rw[List.mem_map]at hp
   obtain⟨m,hm,rfl⟩:=hp
   rw[List.mem_filter]at hm
   refine⟨⟨by simp,by simp;omega⟩,fun hu=>?_⟩
   have hs:bf ((dx x).getD n 0) i=true:=by
    cases hq:bf ((dx x).getD n 0) i with
    |true=>rfl
    |false=>
     exfalso
     have h1:=(Ju zs hi 3 ((dx x).getD n 0) (by simp[okD])).1
     rw[hq,if_neg (by simp)]at h1
     have:0<cu (eu 3 zs ((dx x).getD n 0)) i:=List.countP_pos_iff.2 ⟨m,hm.1,hu⟩
     omega
   simpa using(Hw hx hi hne).2 n (by omega) hs
end
section
open Pm
structure cn1(p:PS):Prop where
 lf0:0<=p.lf
 lf1:p.lf<8
 zl:p.zs.length=31
 al:p.ad.length=8
 cl:p.ch.length=32
 gl:p.sg.length=32
 sl:p.sc.length=32
 bl:p.ab.length=96
 el:p.ep.length=32
 il:p.sD.length=32
 a0:dJ p.zs (16+n1 p.lf)=false->jl p.ab 0=zB 32
 a1:dJ p.zs (16+n2 p.lf)=false->jl p.ab 1=zB 32
 a2:dJ p.zs 23=false->jl p.ab 2=zB 32
theorem xI{ab:List UInt8}(h:ab.length=96)(hk:k<3):(jl ab k).length=32:=by unfold jl;simp;omega
structure Own(p:PS):Prop where
 inv:cn1 p
 may:gF p.e p.zs p.ad p.k=true
 lf:bZ p.zs p.lf.toNat=[aJ 4 (aI p.sg),aS p.sc]
 k0:dJ p.zs (16+n1 p.lf)=true->p.zs.getD (16+n1 p.lf) 0=aS (jl p.ab 0)
 k1:dJ p.zs (16+n2 p.lf)=true->p.zs.getD (16+n2 p.lf) 0=aS (jl p.ab 1)
 k2:dJ p.zs 23=true->p.zs.getD 23 0=aS (jl p.ab 2)
structure Like(p q:PS):Prop where
 e:p.e=q.e
 zs:p.zs=q.zs
 ad:p.ad=q.ad
 k:p.k=q.k
 ch:p.ch=q.ch
 ep:p.ep=q.ep
 sD:p.sD=q.sD
theorem jh(h:List UInt8):dL (aS h)=true:=pY (aI (aY h)) (iq _)
theorem lI(h:List UInt8):aS h≠0:=Cg (jh h)
theorem jK(zs:List Int)(m:Nat):dJ zs m=true↔zs.getD m 0≠0:=by unfold dJ;simp
theorem dX(zs:List Int)(m:Nat):dJ zs m=false↔zs.getD m 0=0:=by unfold dJ;simp
theorem aG5(h:List UInt8):jl (jF h) 0=aj h:=by
 unfold jl jF
 have h1:=fD h
 simp[List.take_append,h1]
theorem aG6(h:List UInt8):jl (jF h) 1=aj (aj h):=by
 unfold jl jF
 have h1:=fD h
 have h2:=fD (aj h)
 simp[List.take_append,List.drop_append,h1,h2]
theorem aG7(h:List UInt8):jl (jF h) 2=aj (aj (aj h)):=by
 unfold jl jF
 have h1:=fD h
 have h2:=fD (aj h)
 have h3:=fD (aj (aj h))
 have e1:List.drop 64 (aj h)=[]:=List.drop_eq_nil_of_le (by omega)
 have e2:List.take 32 (aj (aj (aj h)))=aj (aj (aj h)):=List.take_of_length_le (by omega)
 simp[List.take_append,List.drop_append,h1,h2,h3,e1,e2]
theorem nX(hb:p.ab.length=96)(hh:h.length=32){q k:Nat}(hq:q<3)(hk:k<3):jl (mZ p q h).ab k=if k=q then h else jl p.ab k:=by
 show jl (p.ab.take (q*32)++(h++p.ab.drop (q*32+32))) k=_
 unfold jl
 have h1:(p.ab.take (q*32)).length=q*32:=by simp;omega
 by_cases e:k=q
 ·subst e
  rw[if_pos rfl,List.drop_append_of_le_length (by omega),List.drop_eq_nil_of_le (by omega),List.nil_append,List.take_append_of_le_length (by omega),List.take_of_length_le (by omega)]
 ·rw[if_neg e]
  rcases Nat.lt_or_ge k q with h2|h2
  ·rw[List.drop_append_of_le_length (by omega),List.take_append_of_le_length (by simp;omega),List.drop_take,List.take_take,show min 32 (q*32-k*32)=32 by omega]
  ·rw[List.drop_append,List.drop_eq_nil_of_le (by omega),List.nil_append,h1,List.drop_append,List.drop_eq_nil_of_le (by omega),List.nil_append,List.drop_drop,hh]
   congr 2
   omega
theorem tT(hb:p.ab.length=96)(hh:h.length=32){q:Nat}(hq:q<3):(mZ p q h).ab.length=96:=by
 show(p.ab.take (q*32)++(h++p.ab.drop (q*32+32))).length=96
 simp;omega
structure oo(p p':PS):Prop where
 e:p'.e=p.e
 zs:p'.zs=p.zs
 ad:p'.ad=p.ad
 k:p'.k=p.k
 ch:p'.ch=p.ch
 lf:p'.lf=p.lf
 sg:p'.sg=p.sg
 sc:p'.sc=p.sc
 ep:p'.ep=p.ep
 sD:p'.sD=p.sD
theorem oo.refl(p:PS):oo p p:=⟨rfl,rfl,rfl,rfl,rfl,rfl,rfl,rfl,rfl,rfl⟩
theorem oo.trans{p q r:PS}(h:oo p q)(k:oo q r):oo p r:=⟨k.1.trans h.1,k.2.trans h.2,k.3.trans h.3,k.4.trans h.4,k.5.trans h.5,k.6.trans h.6,k.7.trans h.7,k.8.trans h.8,k.9.trans h.9,k.10.trans h.10⟩
theorem oo.set(p:PS)(q:Nat)(h:List UInt8):oo p (mZ p q h):=⟨rfl,rfl,rfl,rfl,rfl,rfl,rfl,rfl,rfl,rfl⟩
theorem X6(hb:p.ab.length=96)(hk:k<3):oo p (kg p k)/\(kg p k).ab.length=96/\
  (0<k->jl (kg p k).ab 0=if dJ p.zs (16+n1 p.lf)=true then jl p.ab 0 else zB 32)/\(1<k->jl (kg p k).ab 1=if dJ p.zs (16+n2 p.lf)=true then jl p.ab 1 else zB 32):=by
 have hz:(zB 32).length=32:=by simp
 have l0:(jR p).ab.length=96:=by unfold jR;split;exact hb;exact tT hb hz (by decide)
 have s0:oo p (jR p):=by unfold jR;split;exact .refl p;exact .set p 0 _
 have a0:jl (jR p).ab 0=if dJ p.zs (16+n1 p.lf)=true then jl p.ab 0 else zB 32:=by
  unfold jR;split
  ·rfl
  ·rw[nX hb hz (by decide) (by decide),if_pos rfl]
 have a1:jl (jR p).ab 1=jl p.ab 1:=by
  unfold jR;split
  ·rfl
  ·rw[nX hb hz (by decide) (by decide),if_neg (by decide)]
 have e1:(jR p).zs=p.zs:=s0.zs
 have e2:(jR p).lf=p.lf:=s0.lf
 have l1:(rF (jR p)).ab.length=96:=by unfold rF;split;exact l0;exact tT l0 hz (by decide)
 have s1:oo p (rF (jR p)):=by unfold rF;split;exact s0;exact s0.trans (.set _ 1 _)
 have b0:jl (rF (jR p)).ab 0=jl (jR p).ab 0:=by
  unfold rF;split
  ·rfl
  ·rw[nX l0 hz (by decide) (by decide),if_neg (by decide)]
 have b1:jl (rF (jR p)).ab 1=if dJ p.zs (16+n2 p.lf)=true then jl p.ab 1 else zB 32:=by
  unfold rF;rw[e1,e2];split
  ·exact a1
  ·rw[nX l0 hz (by decide) (by decide),if_pos rfl]
 unfold kg
 rcases(show k=0\/k=1\/k=2 by omega)with rfl|rfl|rfl
 ·exact⟨.refl p,hb,fun h=>absurd h (by decide),fun h=>absurd h (by decide)⟩
 ·exact⟨s0,l0,fun _=>a0,fun h=>absurd h (by decide)⟩
 ·exact⟨s1,l1,fun _=>b0.trans a0,fun _=>b1⟩
theorem Fg(hb:p.ab.length=96)(hh:h.length=32)(hk:k<3)
  (c0:k=0->p.zs.getD (16+n1 p.lf) 0=aS h)(c1:k<=1->p.zs.getD (16+n2 p.lf) 0=aS (if k=1 then h else aj h))(c2:p.zs.getD 23 0=aS (if k=2 then h else if k=1 then aj h else aj (aj h))):
  (dI p h k).1=true/\(dI p h k).2.1=(if k=2 then aj h else if k=1 then aj (aj h)else aj (aj (aj h)))/\oo p (dI p h k).2.2/\(dI p h k).2.2.ab.length=96/\
  jl (dI p h k).2.2.ab 0=(if k=0 then h else jl p.ab 0)/\jl (dI p h k).2.2.ab 1=(if k=0 then aj h else if k=1 then h else jl p.ab 1)/\jl (dI p h k).2.2.ab 2=(if k=0 then aj (aj h)else if k=1 then aj h else h):=by
 have no:∀(q:PS) (x:List UInt8) (m:Nat),q.zs.getD m 0=aS x->¬upB q x m=true:=fun q x m e=>by unfold upB;rw[e];simp[aS]
 have top:∀(q:PS) (x:List UInt8),q.ab.length=96->x.length=32->q.zs.getD 23 0=aS x->(iF q x).1=true/\(iF q x).2.1=aj x/\oo q (iF q x).2.2/\(iF q x).2.2.ab.length=96/\jl (iF q x).2.2.ab 0=jl q.ab 0/\jl (iF q x).2.2.ab 1=jl q.ab 1/\jl (iF q x).2.2.ab 2=x:=fun q x hq hx e=>by
  unfold iF
  rw[if_neg (no q x 23 e)]
  exact⟨rfl,rfl,.set _ _ _,tT hq hx (by decide),by rw[nX hq hx (by decide) (by decide),if_neg (by decide)],by rw[nX hq hx (by decide) (by decide),if_neg (by decide)],by rw[nX hq hx (by decide) (by decide),if_pos rfl]⟩
 have mid:∀(q:PS) (x:List UInt8),q.ab.length=96->x.length=32->q.zs.getD (16+n2 q.lf) 0=aS x->q.zs.getD 23 0=aS (aj x)->(gK q x).1=true/\(gK q x).2.1=aj (aj x)/\oo q (gK q x).2.2/\(gK q x).2.2.ab.length=96/\jl (gK q x).2.2.ab 0=jl q.ab 0/\jl (gK q x).2.2.ab 1=x/\jl (gK q x).2.2.ab 2=aj x:=fun q x hq hx e e2=>by
  unfold gK
  rw[if_neg (no q x _ e)]
  obtain⟨t1,t2,t3,t4,t5,t6,t7⟩:=top (mZ q 1 x) (aj x) (tT hq hx (by decide)) (fD x) e2
  exact⟨t1,t2,(oo.set q 1 x).trans t3,t4,by rw[t5,nX hq hx (by decide) (by decide),if_neg (by decide)],by rw[t6,nX hq hx (by decide) (by decide),if_pos rfl],t7⟩
 rcases(show k=0\/k=1\/k=2 by omega)with rfl|rfl|rfl
 ·have e0:=c0 rfl
  have e1:p.zs.getD (16+n2 p.lf) 0=aS (aj h):=c1 (by decide)
  have e2:p.zs.getD 23 0=aS (aj (aj h)):=c2
  have e:dI p h 0=gK (mZ p 0 h) (aj h):=by
   unfold dI
   rw[if_pos rfl]
   unfold nY
   rw[if_neg (no p h _ e0)]
  obtain⟨t1,t2,t3,t4,t5,t6,t7⟩:=mid (mZ p 0 h) (aj h) (tT hb hh (by decide)) (fD h) e1 e2
  rw[e]
  refine⟨t1,t2.trans ?_,(oo.set p 0 h).trans t3,t4,?_,t6.trans ?_,t7.trans ?_⟩
  ·rw[if_neg (by decide),if_neg (by decide)]
  ·rw[t5,nX hb hh (by decide) (by decide),if_pos rfl]
  ·rw[if_pos rfl]
  ·rw[if_pos rfl]
 ·have e1:p.zs.getD (16+n2 p.lf) 0=aS h:=c1 (by decide)
  have e2:p.zs.getD 23 0=aS (aj h):=c2
  have e:dI p h 1=gK p h:=by unfold dI;rw[if_neg (by decide),if_pos rfl]
  obtain⟨t1,t2,t3,t4,t5,t6,t7⟩:=mid p h hb hh e1 e2
  rw[e]
  refine⟨t1,t2.trans ?_,t3,t4,t5.trans ?_,t6.trans ?_,t7.trans ?_⟩
  ·rw[if_neg (by decide),if_pos rfl]
  ·rw[if_neg (by decide)]
  ·rw[if_neg (by decide),if_pos rfl]
  ·rw[if_neg (by decide),if_pos rfl]
 ·have e2:p.zs.getD 23 0=aS h:=c2
  have e:dI p h 2=iF p h:=by unfold dI;rw[if_neg (by decide),if_neg (by decide)]
  obtain⟨t1,t2,t3,t4,t5,t6,t7⟩:=top p h hb hh e2
  rw[e]
  refine⟨t1,t2.trans ?_,t3,t4,t5.trans ?_,t6.trans ?_,t7.trans ?_⟩
  ·rw[if_pos rfl]
  ·rw[if_neg (by decide)]
  ·rw[if_neg (by decide),if_neg (by decide)]
  ·rw[if_neg (by decide),if_neg (by decide)]
end
section
open Pm
theorem GY{zs:List Int}:∀(d:Nat) (n m:Int),m∈eu d zs n->eG zs m≠0
 |0,n,m,h=>by
  unfold eu at h
  split at h
  ·cases h
  ·next hk=>rw[List.mem_singleton.1 h];exact hk
 |d+1,n,m,h=>by
  unfold eu at h
  split at h
  ·split at h
   ·rcases List.mem_append.1 h with h|h
    ·exact GY d _ m h
    ·exact GY d _ m h
   ·cases h
  ·next hk=>rw[List.mem_singleton.1 h];exact hk
theorem DC{zs:List Int}{bt:List Bool}{x:Int}:∀n,∀q∈dP zs bt x n,eG zs q.2≠0
 |0,q,h=>by simp[dP]at h
 |n+1,q,h=>by
  rw[dP,List.mem_append]at h
  rcases h with h|h
  ·exact DC n q h
  ·unfold eZ at h
   obtain⟨m,hm,rfl⟩:=List.mem_map.1 h
   exact GY 3 _ m (List.mem_filter.1 hm).1
theorem UD{l:List (Int×Int)}{lf:Int}(h:∃q∈l,bf q.2 lf=true):dQ l lf<l.length/\bf (l.getD (dQ l lf) (0,0)).2 lf=true/\l.getD (dQ l lf) (0,0)∈l:=by
 have h1:dQ l lf<l.length:=List.findIdx_lt_length_of_exists h
 have h2:l.getD (dQ l lf) (0,0)=l[dQ l lf]:=by rw[yGd,yGe h1];rfl
 rw[h2]
 exact⟨h1,List.findIdx_getElem (w:=h1),List.getElem_mem h1⟩
theorem DW{m lf:Int}(h:bf m lf=true):m=2*lf\/m=lf / 2*4+1\/m=lf / 4*8+3\/m=7:=by
 unfold bf at h
 simp only[Bool.and_eq_true,Bool.or_eq_true,decide_eq_true_eq]at h
 rcases h.2 with((h|h)|h)|h<;>simp[h]
theorem tq(hz:zs.length=31)(f0:0<=fr)(f1:fr<8)(sl a b c:Int){j:Nat}(hj:j<8):bZ (qY zs fr sl a b c) j=if j=fr.toNat then[zs.getD (fr.toNat*2) 0,sl]else bZ zs j:=by
 have hl:=Nu hz fr sl a b c
 rw[jg (by omega) hj,qB hz f0 f1,qB hz f0 f1,jg (by omega) hj]
 unfold n1 n2
 by_cases e:j=fr.toNat
 ·rw[if_neg (by omega),if_neg (by omega),if_neg (by omega),if_neg (by omega),if_neg (by omega),if_neg (by omega),if_neg (by omega),if_pos (by omega),if_pos e,e]
 ·rw[if_neg (by omega),if_neg (by omega),if_neg (by omega),if_neg (by omega),if_neg (by omega),if_neg (by omega),if_neg (by omega),if_neg (by omega),if_neg e]
theorem aS3(hz:zs.length=31)(h:wQ zs=true)(f0:0<=fr)(f1:fr<8){sl a b c x y:Int}(hx:bZ zs fr.toNat=[x,y])(ix:dL x=true)(i0:dL sl=true)(i1:dL a=true)(i2:dL b=true)(i3:dL c=true):wQ (qY zs fr sl a b c)=true:=by
 obtain⟨h1,h2⟩:=(Es zs).1 h
 refine(Es _).2 ⟨fun k hk=>?_,fun k hk=>?_⟩
 ·have e:=tq hz f0 f1 sl a b c hk
  by_cases hki:k=fr.toNat
  ·rw[if_pos hki]at e
   have hx2:=hx
   rw[jg (by omega) (by omega)]at hx2
   have e1:zs.getD (fr.toNat*2) 0=x:=(List.cons.inj hx2).1
   rw[e1]at e
   exact J3 e ix i0
  ·rw[if_neg hki]at e
   rw[J2 e];exact h1 k hk
 ·have:=h2 k hk
  rw[Gf hk]at this ⊢
  rw[qB hz f0 f1]
  unfold n1 n2
  have odd:∀v:Int,dL v=true->(k:Int)%2=1->(decide (v=0)||(!((k:Int).tmod 2==0)&&dL v))=true:=fun v hv ho=>by
   have:(k:Int).tmod 2=1:=by rw[Int.tmod_eq_emod_of_nonneg (by omega)];exact ho
   rw[this,hv];simp
  split
  ·exact odd c i3 (by omega)
  ·split
   ·exact odd b i2 (by omega)
   ·split
    ·exact odd a i1 (by omega)
    ·rw[if_neg (by omega)];exact this
theorem OV(hz:zs.length=31)(f0:0<=fr)(f1:fr<8)(sl a b c:Int){j:Nat}(hj:j<8)(hs:sl≠0)(h:eH zs j=true):eH (qY zs fr sl a b c) j=true:=by
 unfold eH at h ⊢
 rw[tq hz f0 f1 sl a b c hj]
 split
 ·simp[hs]
 ·exact h
theorem aT4{zs0:List Int}(g:Goes zs0 s)(hk:s.k<=((mJ s.ad:Nat):Int))(f0:0<=fr)(f1:fr<8){sl a b c x y:Int}(hx:bZ s.zs fr.toNat=[x,y])(ix:dL x=true)(i0:dL sl=true)(i1:dL a=true)(i2:dL b=true)(i3:dL c=true){e:Int}(e0:0<=e)(e1:e<=1099511627776):
  gF e (qY s.zs fr sl a b c) s.ad s.k=true:=by
 refine uO.2 ⟨e0,e1,aS3 g.zl g.t f0 f1 hx ix i0 i1 i2 i3,?_,g.k,hk⟩
 rw[nK]
 intro i hi ha
 exact OV g.zl f0 f1 sl a b c hi (Cg i0) ((nK _ _).1 g.adm i hi ha)
theorem comE_0(h:eX q n ops m vs=0):fu q.e q.zs q.ad q.k q.ch q.lf ops n vs m=0/\(fC q.e ⟨q.zs,q.ad,q.k,F8,F8⟩ q.lf ops n).1=0/\q.e<1099511627776:=by
 unfold eX at h
 by_cases h1:fu q.e q.zs q.ad q.k q.ch q.lf ops n vs m=0
 ·rw[if_neg (fun x=>x h1)]at h
  by_cases h2:(fC q.e ⟨q.zs,q.ad,q.k,F8,F8⟩ q.lf ops n).1=0
  ·rw[if_neg (fun x=>x h2)]at h
   refine⟨h1,h2,?_⟩
   by_cases h3:q.e>=1099511627776
   ·rw[if_pos h3]at h;cases h
   ·omega
  ·rw[if_pos h2]at h;exact absurd h h2
 ·rw[if_pos h1]at h;exact absurd h h1
theorem Own.mem(h:Own p):eH p.zs p.lf.toNat=true:=VQ h.lf (pY _ (iq _))
theorem Own.dS(h:Own p):dS p.zs p.lf=true:=by
 unfold Go.Proofs.YtegalalmamofdaaGreatDoor.dS
 rw[h.mem]
 have h0:=h.inv.lf0
 have h1:=h.inv.lf1
 simp[aL,h0,h1]
theorem Own.num(h:Own p):p.zs.getD (p.lf.toNat*2) 0=aJ 4 (aI p.sg)/\p.zs.getD (p.lf.toNat*2+1) 0=aS p.sc:=by
 have h1:=h.lf
 have z:=h.inv.zl
 have l0:=h.inv.lf0
 have l1:=h.inv.lf1
 rw[jg (by omega) (by omega)]at h1
 exact⟨(List.cons.inj h1).1,(List.cons.inj (List.cons.inj h1).2).1⟩
theorem tu(p:PS)(s:Vw)(n:Nat)(ops:List Int)(m:Nat)(vs:List Int)(d:List UInt8):(aT p s n ops m vs d).zs=qY s.zs p.lf (aS (aK d)) (aS (aj (aK d))) (aS (aj (aj (aK d)))) (aS (aj (aj (aj (aK d))))):=by
 dsimp only[aT,eT,fG,nu,qM,fJ]
theorem xL(hq:Own q)(hc:eX q n ops m vs=0)(d:List UInt8):Own (aT q (fq q q.lf n ops) n ops m vs d):=by
 obtain⟨h1,h2,h3⟩:=comE_0 hc
 obtain⟨g,gk,gm,_⟩:=En hq.inv.zl hq.inv.al h2
 obtain⟨l0,l1⟩:=(⟨hq.inv.lf0,hq.inv.lf1⟩:0<=q.lf/\q.lf<8)
 have hst:K5 q.zs q.lf.toNat (fq q q.lf n ops):=by
  have e:((q.lf.toNat:Nat):Int)=q.lf:=by omega
  have h2':=h2
  rw[<-e]at h2'
  have:=(EF hq.inv.zl hq.inv.al h2').2
  rw[e]at this
  exact this
 obtain⟨e0,_⟩:=uO.1 gm
 have hg:Goes q.zs (fq q q.lf n ops):=g
 have hgk:(fq q q.lf n ops).k<=((mJ (fq q q.lf n ops).ad:Nat):Int):=gk
 generalize fq q q.lf n ops=s at hst hg hgk
 have hx:bZ s.zs q.lf.toNat=[aJ 4 (aI q.sg),aS q.sc]:=hst.own.trans hq.lf
 have ix:dL (aJ 4 (aI q.sg))=true:=pY _ (iq _)
 have y0:=jh (aK d)
 have y1:=jh (aj (aK d))
 have y2:=jh (aj (aj (aK d)))
 have y3:=jh (aj (aj (aj (aK d))))
 obtain⟨zs,hzs⟩:∃zs,zs=qY s.zs q.lf (aS (aK d)) (aS (aj (aK d))) (aS (aj (aj (aK d)))) (aS (aj (aj (aj (aK d))))):=⟨_,rfl⟩
 have ez:(aT q s n ops m vs d).zs=zs:=(tu q s n ops m vs d).trans hzs.symm
 have hlen:zs.length=31:=by rw[hzs];exact Nu hg.zl _ _ _ _ _
 have get:=qB hg.zl l0 l1 (aS (aK d)) (aS (aj (aK d))) (aS (aj (aj (aK d)))) (aS (aj (aj (aj (aK d)))))
 rw[<-hzs]at get
 have g0:zs.getD (16+n1 q.lf) 0=aS (aj (aK d)):=by rw[get];unfold n1 n2;rw[if_neg (by omega),if_neg (by omega),if_pos rfl]
 have g1:zs.getD (16+n2 q.lf) 0=aS (aj (aj (aK d))):=by rw[get];unfold n2;rw[if_neg (by omega),if_pos rfl]
 have g2:zs.getD 23 0=aS (aj (aj (aj (aK d)))):=by rw[get,if_pos rfl]
 have Jv:(aT q s n ops m vs d).ab=jF (aK d):=rfl
 have NW:(aT q s n ops m vs d).lf=q.lf:=rfl
 have yes:∀{k:Nat} {x:List UInt8} {P:Prop},zs.getD k 0=aS x->dJ zs k=false->P:=fun e h=>((lI _) (e.symm.trans ((dX _ _).1 h))).elim
 refine⟨⟨l0,l1,by rw[ez];exact hlen,hg.al,ad4 _ _,hq.inv.gl,FX d,by rw[Jv];exact Bv _,aj6 _ _,Oz _,?_,?_,?_⟩,?_,?_,?_,?_,?_⟩
 ·rw[ez,NW];exact yes g0
 ·rw[ez,NW];exact yes g1
 ·rw[ez];exact yes g2
 ·show gF (q.e+1) (aT q s n ops m vs d).zs s.ad s.k=true
  rw[ez,hzs]
  exact aT4 hg hgk l0 l1 hx ix y0 y1 y2 y3 (by omega) (by omega)
 ·show bZ (aT q s n ops m vs d).zs q.lf.toNat=[aJ 4 (aI q.sg),aS (aK d)]
  rw[ez,hzs,tq hg.zl l0 l1 _ _ _ _ (by omega),if_pos rfl]
  have h4:=hx
  rw[jg (by have:=hg.zl;omega) (by omega)]at h4
  rw[(List.cons.inj h4).1]
 ·intro _;rw[ez,NW,Jv,aG5];exact g0
 ·intro _;rw[ez,NW,Jv,aG6];exact g1
 ·intro _;rw[ez,Jv,aG7];exact g2
end
section
open Pm
section
variable (q : PS) (s : Vw) (n : Nat) (ops : List Int) (m : Nat) (vs : List Int) (d : List UInt8)
theorem af2:(bJ q s n ops m vs d).e=q.e:=by dsimp only[bJ,fJ]
theorem Ll:(bJ q s n ops m vs d).fr=q.lf:=by dsimp only[bJ,fJ]
theorem br5:(bJ q s n ops m vs d).n=n:=by dsimp only[bJ,fJ]
theorem af3:(bJ q s n ops m vs d).ops=ops:=by dsimp only[bJ,fJ]
theorem br4:(bJ q s n ops m vs d).m=m:=by dsimp only[bJ,fJ]
theorem aN5:(bJ q s n ops m vs d).vs=vs:=by dsimp only[bJ,fJ]
theorem aN4:(bJ q s n ops m vs d).sl=aS (aK d):=by dsimp only[bJ,fJ]
theorem aM9:(bJ q s n ops m vs d).p0=aS (aj (aK d)):=by dsimp only[bJ,fJ]
theorem aN0:(bJ q s n ops m vs d).p1=aS (aj (aj (aK d))):=by dsimp only[bJ,fJ]
theorem aN1:(bJ q s n ops m vs d).p2=aS (aj (aj (aj (aK d)))):=by dsimp only[bJ,fJ]
theorem br3:(bJ q s n ops m vs d).k=(bT s.zs q.lf s.ng).length:=by dsimp only[bJ,fJ]
theorem aM7(j:Nat):(bJ q s n ops m vs d).bx j=dH (eG s.zs ((bT s.zs q.lf s.ng).getD j (0,0)).2) (aI (jm d (j:Nat))) (jl (jF (aK d)) ((bT s.zs q.lf s.ng).getD j (0,0)).1.toNat):=by dsimp only[bJ,fJ,uw,Di]
theorem NR:(bJ q s n ops m vs d).tag=eB (aT q s n ops m vs d).ep:=by dsimp only[bJ]
theorem Jq:bn (bJ q s n ops m vs d)=bn (fJ q s n ops m vs d):=by unfold bn pR qC;dsimp only[bJ]
theorem aN2:(bJ q s n ops m vs d).sE=iV (aI q.sg) (bn (fJ q s n ops m vs d)++eB (aT q s n ops m vs d).ep):=by dsimp only[bJ]
theorem aN3:(bJ q s n ops m vs d).sS=jI (aI q.sg) (bn (fJ q s n ops m vs d)++eB (aT q s n ops m vs d).ep):=by dsimp only[bJ]
end
section
variable (q : PS) (s : Vw) (n : Nat) (ops : List Int) (m : Nat) (vs : List Int) (d : List UInt8)
theorem OW:(aT q s n ops m vs d).ep=RY (dB q d) (bR (aT q s n ops m vs d).e (aT q s n ops m vs d).zs (aT q s n ops m vs d).ad (aT q s n ops m vs d).k (aT q s n ops m vs d).ch):=by
 dsimp only[aT,eT,fG]
theorem J6:(aT q s n ops m vs d).sD=Oy (aT q s n ops m vs d).ep:=by
 dsimp only[aT,eT,fG]
end
theorem Like.fq(h:Like p q)(fr:Int)(n:Nat)(ops:List Int):fq p fr n ops=fq q fr n ops:=by
 unfold Go.Proofs.YtegalalmamofdaaGreatDoor.fq;rw[h.e,h.zs,h.ad,h.k]
theorem Like.mI(h:Like p q)(fr:Int)(n:Nat)(ops:List Int)(m:Nat)(vs:List Int):mI p fr n ops m vs=mI q fr n ops m vs:=by
 unfold Go.Proofs.YtegalalmamofdaaGreatDoor.mI;rw[h.e,h.zs,h.ad,h.k,h.ch]
theorem apE_0(h:eX q n ops m vs=0):mI q q.lf n ops m vs=0:=by
 obtain⟨h1,h2,_⟩:=comE_0 h
 unfold mI
 rw[if_neg (fun x=>x h1)]
 exact h2
theorem bp3(hq:Own q)(hl:Like p q)(hne:p.lf≠q.lf)(s:Vw)(n:Nat)(ops:List Int)(m:Nat)(vs:List Int)(d:List UInt8):yA p (bJ q s n ops m vs d)=0:=by
 obtain⟨c,hc⟩:∃c,c=bJ q s n ops m vs d:=⟨_,rfl⟩
 have e1:c.e=q.e:=by rw[hc,af2]
 have e2:c.fr=q.lf:=by rw[hc,Ll]
 have e3:bn c=bn (fJ q s n ops m vs d):=by rw[hc,Jq]
 have e4:c.tag=eB (aT q s n ops m vs d).ep:=by rw[hc,NR]
 have e5:c.sE=iV (aI q.sg) (bn (fJ q s n ops m vs d)++eB (aT q s n ops m vs d).ep):=by rw[hc,aN2]
 have e6:c.sS=jI (aI q.sg) (bn (fJ q s n ops m vs d)++eB (aT q s n ops m vs d).ep):=by rw[hc,aN3]
 rw[<-hc]
 unfold yA
 rw[e1,e2,e3,e4,e5,e6,hl.e,hl.zs,if_neg (fun h=>h rfl),hq.dS,hq.num.1,if_neg (by rintro(h|h);exact hne h.symm;cases h),aH3 _ _ (iq _),if_pos rfl]
theorem aq7{k:Int}(k0:0<=k)(k1:k<15)(ho:k%2≠0):eG zs k=zs.getD (16+k.toNat) 0:=by
 unfold eG;rw[if_pos ⟨k0,k1⟩,if_neg ho]
theorem aZ3(hp:Own p)(hg:Goes p.zs s)(hl:bZ s.zs p.lf.toNat=bZ p.zs p.lf.toNat)(pp:PS)(e1:pp.lf=p.lf)(e2:pp.sc=p.sc)(e3:pp.ab=p.ab){k:Int}(hu:bf k p.lf=true)(hk:eG s.zs k≠0):eG s.zs k=aS (vX pp k)/\(vX pp k).length=32:=by
 have l0:=hp.inv.lf0
 have l1:=hp.inv.lf1
 unfold vX
 rw[e1,e2,e3]
 have node:∀(i:Nat) (t:Int),i<3->k=t->0<=t->t<15->t%2≠0->aZ p.lf t=i->(dJ p.zs (16+t.toNat)=true->p.zs.getD (16+t.toNat) 0=aS (jl p.ab i))->eG s.zs k=aS (if k=2*p.lf then p.sc else jl p.ab (aZ p.lf k).toNat)/\(if k=2*p.lf then p.sc else jl p.ab (aZ p.lf k).toNat).length=32:=by
  rintro i t hi rfl t0 t1 ho hpl hkey
  rw[aq7 t0 t1 ho]at hk ⊢
  rw[if_neg (by omega),hpl,Int.toNat_natCast]
  refine⟨?_,xI hp.inv.bl hi⟩
  rcases hg.nd (16+k.toNat) (by omega)with h|h
  ·exact absurd h hk
  ·rw[h]at hk ⊢
   exact hkey ((jK _ _).2 hk)
 rcases DW hu with h|h|h|h
 ·rw[if_pos h]
  refine⟨?_,hp.inv.sl⟩
  have e:k=2*((p.lf.toNat:Nat):Int):=by omega
  rw[e,JY _ (by omega)]
  have h4:=hl.trans hp.lf
  rw[jg (by have:=hg.zl;omega) (by omega)]at h4
  exact(List.cons.inj (List.cons.inj h4).2).1
 ·refine node 0 _ (by decide) h (by omega) (by omega) (by omega) ?_ hp.k0
  unfold aZ vV;rw[if_pos rfl];rfl
 ·refine node 1 _ (by decide) h (by omega) (by omega) (by omega) ?_ hp.k1
  unfold aZ vV;rw[if_neg (by omega),if_pos rfl];rfl
 ·refine node 2 7 (by decide) h (by omega) (by omega) (by omega) ?_ hp.k2
  unfold aZ vV;rw[if_neg (by omega),if_neg (by omega),if_pos rfl];rfl
theorem aT5(a0:0<=a)(a1:a<8)(b0:0<=b)(b1:b<8)(hne:b≠a)(hk:k<3)(h:(Km a).getD k 0=bg a b):(k=0->n1 b=n1 a/\n2 b=n2 a)/\(k=1->n2 b=n2 a/\n1 b≠n1 a)/\(k=2->n2 b≠n2 a/\n1 b≠n1 a):=by
 have la:aL a=true:=by simp[aL,a0,a1]
 have lb:aL b=true:=by simp[aL,b0,b1]
 unfold Km bg at h
 rw[la,lb]at h
 simp only[and_self,if_true]at h
 rw[if_neg (fun e=>hne e.symm)]at h
 unfold n1 n2
 rcases(show k=0\/k=1\/k=2 by omega)with rfl|rfl|rfl
 ·simp only[List.getD_cons_zero]at h
  refine⟨fun _=>?_,fun h=>absurd h (by decide),fun h=>absurd h (by decide)⟩
  split at h
  ·omega
  ·split at h<;>omega
 ·simp only[List.getD_cons_zero,List.getD_cons_succ]at h
  refine⟨fun h=>absurd h (by decide),fun _=>?_,fun h=>absurd h (by decide)⟩
  split at h
  ·omega
  ·split at h<;>omega
 ·simp only[List.getD_cons_zero,List.getD_cons_succ]at h
  refine⟨fun h=>absurd h (by decide),fun h=>absurd h (by decide),fun _=>?_⟩
  split at h
  ·omega
  ·split at h<;>omega
theorem bz4(hp:Own p)(hq:Own q)(hl:Like p q)(hne:p.lf≠q.lf)(hc:eX q n ops m vs=0)(d:List UInt8)(hs:s=fq q q.lf n ops)(hgn:s.gn.getD p.lf.toNat false=false){c:CS}(hcm:c=bJ q s n ops m vs d):
  ∃p2,qE (nu p s c) c (bT s.zs q.lf s.ng)=(0,MQ (aK d),p2)/\oo (nu p s c) p2/\p2.ab.length=96/\
   (∀i,i<3->(jl p2.ab i).length=32)/\
   (nu p s c).zs=qY s.zs q.lf (aS (aK d)) (aS (aj (aK d))) (aS (aj (aj (aK d)))) (aS (aj (aj (aj (aK d)))))/\
   Goes p.zs s/\bZ s.zs p.lf.toNat=bZ p.zs p.lf.toNat/\
   ((n1 p.lf=n1 q.lf/\jl p2.ab 0=aj (aK d))\/(n1 p.lf≠n1 q.lf/\jl p2.ab 0=if dJ s.zs (16+n1 p.lf)=true then jl p.ab 0 else zB 32))/\
   ((n2 p.lf=n2 q.lf/\jl p2.ab 1=aj (aj (aK d)))\/(n2 p.lf≠n2 q.lf/\jl p2.ab 1=if dJ s.zs (16+n2 p.lf)=true then jl p.ab 1 else zB 32))/\
   jl p2.ab 2=aj (aj (aj (aK d))):=by
 obtain⟨h1,h2,h3⟩:=comE_0 hc
 obtain⟨g,gk,gm,_⟩:=En hq.inv.zl hq.inv.al h2
 have hg:Goes p.zs s:=by rw[hl.zs,hs];exact g
 have p0:=hp.inv.lf0
 have p1:=hp.inv.lf1
 have q0:=hq.inv.lf0
 have q1:=hq.inv.lf1
 have hkp:Keep p.zs p.lf.toNat s:=by
  have:=aS8 (j:=p.lf.toNat) hq.inv.zl (by omega) (by rw[<-hl.zs];exact hp.mem) h2
  rw[hl.zs,hs];exact this
 obtain⟨hm,hlf,Cc⟩:eH s.zs p.lf.toNat=true/\bZ s.zs p.lf.toNat=bZ p.zs p.lf.toNat/\s.ng.getD p.lf.toNat false=false:=by
  rcases hkp.or with h|h
  ·rw[hgn]at h;cases h
  ·exact h
 have ei:((p.lf.toNat:Nat):Int)=p.lf:=by omega
 have ej:((q.lf.toNat:Nat):Int)=q.lf:=by omega
 obtain⟨l,hL⟩:∃l,l=bT s.zs q.lf s.ng:=⟨_,rfl⟩
 have hL3:l=dP s.zs s.ng q.lf 3:=by rw[hL];unfold bT;rw[if_pos (by simp[aL,q0,q1])]
 have hne2:p.lf.toNat≠q.lf.toNat:=by omega
 have hsl:s.zs.getD (p.lf.toNat*2+1) 0≠0:=by
  have h4:=hlf.trans hp.lf
  rw[jg (by have:=hg.zl;omega) (by omega)]at h4
  rw[(List.cons.inj (List.cons.inj h4).2).1]
  exact lI _
 have hcount:=(Mq s.zs s.ng (x:=q.lf.toNat) (i:=p.lf.toNat) (by omega) (by omega) hne2).2 Cc hsl
 rw[ej,<-hL3]at hcount
 have hex:∃r∈l,bf r.2 p.lf=true:=by
  unfold ZR at hcount
  obtain⟨r,hr,hr2⟩:=List.countP_pos_iff.1 (by rw[hcount];decide:0<l.countP fun p_1=>bf p_1.2 ((p.lf.toNat:Nat):Int))
  exact⟨r,hr,by rw[ei]at hr2;exact hr2⟩
 obtain⟨f1,f2,f3⟩:=UD hex
 have hat:=Kn s.zs s.ng (x:=q.lf.toNat) (i:=p.lf.toNat) (by omega) (by omega) hne2 3 (yLr _) (l.getD (dQ l p.lf) (0,0)) (by rw[ej,<-hL3];exact f3)
 rw[ei,ej]at hat
 obtain⟨⟨r0,r1⟩,Ow⟩:=hat
 have VD:eG s.zs (l.getD (dQ l p.lf) (0,0)).2≠0:=DC (bt:=s.ng) (x:=q.lf) 3 _ (by rw[<-hL3];exact f3)
 have ao2:c.bx (dQ l p.lf)=dH (eG s.zs (l.getD (dQ l p.lf) (0,0)).2) (aI (jm d (dQ l p.lf:Nat))) (jl (jF (aK d)) (l.getD (dQ l p.lf) (0,0)).1.toNat):=by
  rw[hcm,hL,aM7]
 have ck:c.k=l.length:=by rw[hcm,hL,br3]
 have cfr:c.fr=q.lf:=by rw[hcm,Ll]
 have csl:c.sl=aS (aK d):=by rw[hcm,aN4]
 have cp0:c.p0=aS (aj (aK d)):=by rw[hcm,aM9]
 have cp1:c.p1=aS (aj (aj (aK d))):=by rw[hcm,aN0]
 have cp2:c.p2=aS (aj (aj (aj (aK d)))):=by rw[hcm,aN1]
 have hkeys:vJ c=true:=by unfold vJ;rw[csl,cp0,cp1,cp2,jh,jh,jh,jh];rfl
 obtain⟨pp,hpp⟩:∃pp,pp=nu p s c:=⟨_,rfl⟩
 have ppl:pp.lf=p.lf:=by rw[hpp];dsimp only[nu]
 have pps:pp.sc=p.sc:=by rw[hpp];dsimp only[nu]
 have ppa:pp.ab=p.ab:=by rw[hpp];dsimp only[nu]
 have ppz:pp.zs=qY s.zs q.lf (aS (aK d)) (aS (aj (aK d))) (aS (aj (aj (aK d)))) (aS (aj (aj (aj (aK d))))):=by
  have:pp.zs=qY s.zs c.fr c.sl c.p0 c.p1 c.p2:=by rw[hpp];dsimp only[nu]
  rw[this,cfr,csl,cp0,cp1,cp2]
 rw[<-hpp,<-hL]
 clear hcm hL hpp hcount hex f3 hL3
 obtain⟨i,hi⟩:∃i,dQ l p.lf=i:=⟨_,rfl⟩
 rw[hi]at f1 f2 Ow VD ao2 r0 r1
 obtain⟨rk,rn,hr⟩:∃rk rn,l.getD i (0,0)=(rk,rn):=⟨_,_,rfl⟩
 rw[hr]at f2 Ow VD ao2 r0 r1
 simp only at f2 Ow VD ao2 r0 r1
 obtain⟨k,hk⟩:=Int.eq_ofNat_of_zero_le r0
 have hk3:k<3:=by omega
 have ek:rk.toNat=k:=by omega
 rw[ek]at Ow ao2
 obtain⟨u0,u1,u2⟩:=aT5 q0 q1 p0 p1 hne hk3 (Ow f2)
 obtain⟨s1,s2⟩:=aZ3 hp hg hlf pp ppl pps ppa f2 VD
 obtain⟨b1,b2,b3⟩:=Nz (aY (vX pp rn)) (jm d (i:Nat)) (jl (jF (aK d)) k) (by rw[xI (Bv _) hk3];decide)
 have hb:c.bx i=dH (aJ 4 (aI (aY (vX pp rn)))) (aI (jm d (i:Nat))) (jl (jF (aK d)) k):=by rw[ao2,s1];rfl
 rw[<-hb]at b1 b2 b3
 have cs9:zG (vX pp rn) (c.bx i)=0:=by
  unfold zG
  rw[if_neg (fun x=>x b1),b3,xI (Bv _) hk3,if_neg (by decide)]
 have hbl:pp.ab.length=96:=by rw[ppa];exact hp.inv.bl
 obtain⟨w1,w2,w3,w4⟩:=X6 hbl hk3
 have get:=qB hg.zl q0 q1 (aS (aK d)) (aS (aj (aK d))) (aS (aj (aj (aK d)))) (aS (aj (aj (aj (aK d)))))
 rw[<-ppz]at get
 have z2:pp.zs.getD 23 0=aS (aj (aj (aj (aK d)))):=by rw[get,if_pos rfl]
 have z1:n2 p.lf=n2 q.lf->pp.zs.getD (16+n2 p.lf) 0=aS (aj (aj (aK d))):=fun e=>by rw[get,e];unfold n2;rw[if_neg (by omega),if_pos rfl]
 have z0:n1 p.lf=n1 q.lf->pp.zs.getD (16+n1 p.lf) 0=aS (aj (aK d)):=fun e=>by rw[get,e];unfold n1 n2;rw[if_neg (by omega),if_neg (by omega),if_pos rfl]
 have y1:n2 p.lf≠n2 q.lf->dJ pp.zs (16+n2 p.lf)=dJ s.zs (16+n2 p.lf):=fun e=>by
  unfold dJ;rw[get];unfold n1 n2 at*;rw[if_neg (by omega),if_neg (by omega),if_neg (by omega),if_neg (by omega)]
 have y0:n1 p.lf≠n1 q.lf->dJ pp.zs (16+n1 p.lf)=dJ s.zs (16+n1 p.lf):=fun e=>by
  unfold dJ;rw[get];unfold n1 n2 at*;rw[if_neg (by omega),if_neg (by omega),if_neg (by omega),if_neg (by omega)]
 have hhl:(jl (jF (aK d)) k).length=32:=xI (Bv _) hk3
 have hup:jl (jF (aK d)) k=(if k=0 then aj (aK d)else if k=1 then aj (aj (aK d))else aj (aj (aj (aK d)))):=by
  rcases(show k=0\/k=1\/k=2 by omega)with rfl|rfl|rfl
  ·exact aG5 _
  ·exact aG6 _
  ·exact aG7 _
 have flf:(kg pp k).lf=p.lf:=w1.lf.trans ppl
 obtain⟨t1,t2,t3,t4,t5,t6,t7⟩:=Fg (p:=kg pp k) w2 hhl hk3 (fun e=>by rw[w1.zs,flf,z0 (u0 e).1,hup,if_pos e]) (fun e=>by
   rw[w1.zs,flf,hup]
   rcases(show k=0\/k=1 by omega)with rfl|rfl
   ·rw[z1 (u0 rfl).2];rfl
   ·rw[z1 (u1 rfl).1];rfl) (by
   rw[w1.zs,z2,hup]
   rcases(show k=0\/k=1\/k=2 by omega)with rfl|rfl|rfl<;>rfl)
 have cr2:qE pp c l=(0,(dI (kg pp k) (jl (jF (aK d)) k) k).2):=by
  unfold qE
  rw[ppl,hi,hr]
  show(if vJ c=false\/c.k≠l.length\/i=l.length then _ else if zG (vX pp rn) (c.bx i)≠0 then _ else if(dI (kg pp rk.toNat) (fF (aI (aY (vX pp rn))) (c.bx i)) rk.toNat).1=true then _ else _)=_
  rw[if_neg (by rw[hkeys];rintro(h|h|h);cases h;exact h ck;omega),cs9,if_neg (fun x=>x rfl),ek,b2,if_pos t1]
 have ht:(dI (kg pp k) (jl (jF (aK d)) k) k).2.1=MQ (aK d):=by
  rw[t2,hup]
  rcases(show k=0\/k=1\/k=2 by omega)with rfl|rfl|rfl<;>rfl
 refine⟨(dI (kg pp k) (jl (jF (aK d)) k) k).2.2,cr2.trans (Prod.ext rfl (Prod.ext ht rfl)),w1.trans t3,t4,fun i hi=>xI t4 hi,ppz,hg,hlf,?_,?_,?_⟩
 ·rw[t5,hup]
  rcases(show k=0\/k=1\/k=2 by omega)with rfl|rfl|rfl
  ·exact .inl ⟨(u0 rfl).1,rfl⟩
  ·refine .inr ⟨(u1 rfl).2,?_⟩
   rw[if_neg (by decide),w3 (by decide),ppl,y0 (u1 rfl).2,ppa]
  ·refine .inr ⟨(u2 rfl).2,?_⟩
   rw[if_neg (by decide),w3 (by decide),ppl,y0 (u2 rfl).2,ppa]
 ·rw[t6,hup]
  rcases(show k=0\/k=1\/k=2 by omega)with rfl|rfl|rfl
  ·exact .inl ⟨(u0 rfl).2,rfl⟩
  ·exact .inl ⟨(u1 rfl).1,rfl⟩
  ·refine .inr ⟨(u2 rfl).1,?_⟩
   rw[if_neg (by decide),if_neg (by decide),w4 (by decide),ppl,y1 (u2 rfl).1,ppa]
 ·rw[t7,hup]
  rcases(show k=0\/k=1\/k=2 by omega)with rfl|rfl|rfl<;>rfl
theorem Wj(hp:Own p)(hq:Own q)(hl:Like p q)(hne:p.lf≠q.lf)(hc:eX q n ops m vs=0)(d:List UInt8)(hs:s=fq q q.lf n ops):
  (s.gn.getD p.lf.toNat false=true->oM p (bJ q s n ops m vs d)=(0,none))/\
  (s.gn.getD p.lf.toNat false=false->∃p',oM p (bJ q s n ops m vs d)=(0,some p')/\Own p'/\Like p' (aT q s n ops m vs d)/\p'.lf=p.lf/\p'.sg=p.sg):=by
 have hacc:=bp3 hq hl hne s n ops m vs d
 obtain⟨h1,h2,h3⟩:=comE_0 hc
 have hap:mI p q.lf n ops m vs=0:=(hl.mI _ _ _ _ _).trans (apE_0 hc)
 have hdo:fq p q.lf n ops=s:=(hl.fq _ _ _).trans hs.symm
 obtain⟨c,hcm⟩:∃c,c=bJ q s n ops m vs d:=⟨_,rfl⟩
 have c1:c.fr=q.lf:=by rw[hcm,Ll]
 have c2:c.n=n:=by rw[hcm,br5]
 have c3:c.ops=ops:=by rw[hcm,af3]
 have c4:c.m=m:=by rw[hcm,br4]
 have c5:c.vs=vs:=by rw[hcm,aN5]
 have c6:c.tag=eB (aT q s n ops m vs d).ep:=by rw[hcm,NR]
 have c7:bn c=bn (fJ q s n ops m vs d):=by rw[hcm,Jq]
 rw[<-hcm]at hacc ⊢
 refine⟨fun hgn=>?_,fun hgn=>?_⟩
 ·unfold oM
  rw[if_neg (fun x=>x hacc),c1,c2,c3,c4,c5,hap,if_neg (fun x=>x rfl),hdo,if_pos hgn]
 obtain⟨p2,f1,f2,f3,f4,f5,f6,f7,f8,f9,f10⟩:=bz4 hp hq hl hne hc d hs hgn hcm
 obtain⟨g,gk,gm,_⟩:=En hq.inv.zl hq.inv.al h2
 have hgk:s.k<=((mJ s.ad:Nat):Int):=by rw[hs];exact gk
 have hst:K5 q.zs q.lf.toNat s:=by
  have e:((q.lf.toNat:Nat):Int)=q.lf:=by have:=hq.inv.lf0;omega
  have h2':=h2
  rw[<-e]at h2'
  have:=(EF hq.inv.zl hq.inv.al h2').2
  rw[e]at this
  rw[hs];exact this
 have p0:=hp.inv.lf0
 have p1:=hp.inv.lf1
 have q0:=hq.inv.lf0
 have q1:=hq.inv.lf1
 obtain⟨e0,_⟩:=uO.1 gm
 obtain⟨p',hp'⟩:∃p',p'=eT p2 (FU p.sD (MQ (aK d))):=⟨_,rfl⟩
 obtain⟨q',hq'⟩:∃q',q'=aT q s n ops m vs d:=⟨_,rfl⟩
 have iw:Like p' q':=by
  have a1:p'.e=q'.e:=by
   rw[hp',hq'];show p2.e=q.e+1;rw[f2.e];show p.e+1=_;rw[hl.e]
  have a2:p'.zs=q'.zs:=by
   rw[hp',hq',tu];exact f2.zs.trans f5
  have a3:p'.ad=q'.ad:=by
   rw[hp',hq'];show p2.ad=s.ad;rw[f2.ad];rfl
  have a4:p'.k=q'.k:=by
   rw[hp',hq'];show p2.k=s.k;rw[f2.k];rfl
  have a5:p'.ch=q'.ch:=by
   rw[hp',hq'];show p2.ch=ad3 q.ch (bn (fJ q s n ops m vs d));rw[f2.ch,<-c7,<-hl.ch];rfl
  have a6:p'.ep=q'.ep:=by
   have b1:p'.ep=RY (FU p.sD (MQ (aK d))) (bR p'.e p'.zs p'.ad p'.k p'.ch):=by rw[hp'];rfl
   have b2:q'.ep=RY (dB q d) (bR q'.e q'.zs q'.ad q'.k q'.ch):=by rw[hq'];exact OW q s n ops m vs d
   rw[b1,b2,a1,a2,a3,a4,a5,hl.sD];dsimp only[dB]
  have a7:p'.sD=q'.sD:=by
   have b1:p'.sD=Oy p'.ep:=by rw[hp'];rfl
   have b2:q'.sD=Oy q'.ep:=by rw[hq'];exact J6 q s n ops m vs d
   rw[b1,b2,a6]
  exact⟨a1,a2,a3,a4,a5,a6,a7⟩
 have hown':=xL hq hc d
 rw[<-hs,<-hq']at hown'
 have NW:p'.lf=p.lf:=by rw[hp'];exact f2.lf
 have esg:p'.sg=p.sg:=by rw[hp'];exact f2.sg
 have esc:p'.sc=p.sc:=by rw[hp'];exact f2.sc
 have Jv:p'.ab=p2.ab:=by rw[hp'];rfl
 have ezs:p'.zs=qY s.zs q.lf (aS (aK d)) (aS (aj (aK d))) (aS (aj (aj (aK d)))) (aS (aj (aj (aj (aK d))))):=by rw[hp'];exact f2.zs.trans f5
 have get:=qB f6.zl q0 q1 (aS (aK d)) (aS (aj (aK d))) (aS (aj (aj (aK d)))) (aS (aj (aj (aj (aK d)))))
 rw[<-ezs]at get
 have z2:p'.zs.getD 23 0=aS (aj (aj (aj (aK d)))):=by rw[get,if_pos rfl]
 have z1:n2 p.lf=n2 q.lf->p'.zs.getD (16+n2 p.lf) 0=aS (aj (aj (aK d))):=fun e=>by rw[get,e];unfold n2;rw[if_neg (by omega),if_pos rfl]
 have z0:n1 p.lf=n1 q.lf->p'.zs.getD (16+n1 p.lf) 0=aS (aj (aK d)):=fun e=>by rw[get,e];unfold n1 n2;rw[if_neg (by omega),if_neg (by omega),if_pos rfl]
 have y1:n2 p.lf≠n2 q.lf->p'.zs.getD (16+n2 p.lf) 0=s.zs.getD (16+n2 p.lf) 0:=fun e=>by
  rw[get];unfold n1 n2 at*;rw[if_neg (by omega),if_neg (by omega),if_neg (by omega),if_neg (by omega)]
 have y0:n1 p.lf≠n1 q.lf->p'.zs.getD (16+n1 p.lf) 0=s.zs.getD (16+n1 p.lf) 0:=fun e=>by
  rw[get];unfold n1 n2 at*;rw[if_neg (by omega),if_neg (by omega),if_neg (by omega),if_neg (by omega)]
 have kept:∀k,16<=k->s.zs.getD k 0≠0->s.zs.getD k 0=p.zs.getD k 0:=fun k hk hz=>(f6.nd k hk).resolve_left hz
 refine⟨p',?_,⟨⟨by rw[NW];exact p0,by rw[NW];exact p1,by rw[iw.zs];exact hown'.inv.zl,by rw[iw.ad];exact hown'.inv.al,by rw[iw.ch];exact hown'.inv.cl,by rw[esg];exact hp.inv.gl,by rw[esc];exact hp.inv.sl,by rw[Jv];exact f3,by rw[iw.ep];exact hown'.inv.el,by rw[iw.sD];exact hown'.inv.il,?_,?_,?_⟩,?_,?_,?_,?_,?_⟩,hq'▸iw,NW,esg⟩
 ·unfold oM
  rw[if_neg (fun x=>x hacc),c1,c2,c3,c4,c5,hap,if_neg (fun x=>x rfl),hdo,hgn,if_neg (by decide),hl.e,if_neg (by omega),f1]
  show(if(0:Int)≠0 then _ else if eB (eT p2 (FU p.sD (MQ (aK d)))).ep=c.tag then(0,some (eT p2 (FU p.sD (MQ (aK d)))))else _)=_
  rw[if_neg (fun x=>x rfl),<-hp',if_pos (by rw[c6,<-hq',iw.ep])]
 ·rw[NW,Jv]
  intro h
  rcases f8 with⟨a,b⟩|⟨a,b⟩
  ·exact(lI _ ((z0 a).symm.trans ((dX _ _).1 h))).elim
  ·rw[b,if_neg (by rw[show dJ s.zs (16+n1 p.lf)=false from(dX _ _).2 ((y0 a).symm.trans ((dX _ _).1 h))];decide)]
 ·rw[NW,Jv]
  intro h
  rcases f9 with⟨a,b⟩|⟨a,b⟩
  ·exact(lI _ ((z1 a).symm.trans ((dX _ _).1 h))).elim
  ·rw[b,if_neg (by rw[show dJ s.zs (16+n2 p.lf)=false from(dX _ _).2 ((y1 a).symm.trans ((dX _ _).1 h))];decide)]
 ·intro h
  exact(lI _ (z2.symm.trans ((dX _ _).1 h))).elim
 ·rw[iw.e,iw.zs,iw.ad,iw.k];exact hown'.may
 ·rw[NW,esg,esc,ezs,tq f6.zl q0 q1 _ _ _ _ (by omega),if_neg (by omega),f7]
  exact hp.lf
 ·rw[NW,Jv]
  intro h
  rcases f8 with⟨a,b⟩|⟨a,b⟩
  ·rw[z0 a,b]
  ·have h4:=(jK _ _).1 h
   rw[y0 a]at h4 ⊢
   rw[b,if_pos ((jK _ _).2 h4),kept _ (by omega) h4]
   exact hp.k0 ((jK _ _).2 (by rw[<-kept _ (by omega) h4];exact h4))
 ·rw[NW,Jv]
  intro h
  rcases f9 with⟨a,b⟩|⟨a,b⟩
  ·rw[z1 a,b]
  ·have h4:=(jK _ _).1 h
   rw[y1 a]at h4 ⊢
   rw[b,if_pos ((jK _ _).2 h4),kept _ (by omega) h4]
   exact hp.k1 ((jK _ _).2 (by rw[<-kept _ (by omega) h4];exact h4))
 ·rw[Jv,f10]
  intro _
  exact z2
end
section
open Pm
theorem YI{x:Int}{b:List UInt8}(h:gU x b=0):(fF x b).length=b.length-12:=by
 unfold fF
 rw[iP,List.length_drop]
end
section
open Pm
theorem accE_0{c:CS}(h:yA p c=0):c.e=p.e/\c.fr≠p.lf/\dS p.zs c.fr=true:=by
 unfold yA at h
 by_cases h1:c.e≠p.e
 ·rw[if_pos h1]at h;exact absurd h (by decide)
 rw[if_neg h1]at h
 by_cases h2:c.fr=p.lf\/dS p.zs c.fr=false
 ·rw[if_pos h2]at h;exact absurd h (by decide)
 refine⟨Decidable.byContradiction fun e=>h1 e,fun e=>h2 (.inl e),?_⟩
 cases hm:dS p.zs c.fr with
 |true=>rfl
 |false=>exact(h2 (.inr hm)).elim
theorem bq1(h:mI p fr n ops m vs=0):(fC p.e ⟨p.zs,p.ad,p.k,F8,F8⟩ fr ops n).1=0:=by
 unfold mI at h
 by_cases h1:fu p.e p.zs p.ad p.k p.ch fr ops n vs m≠0
 ·rw[if_pos h1]at h;exact absurd h h1
 ·rw[if_neg h1]at h;exact h
end
section
open Pm
structure Wc where
 lf:Int
 fr:Int
 e:Int
 zs:List Int
 ad:List Bool
 k:Int
 ch:List UInt8
 bx:List UInt8
 tg:List UInt8
abbrev MZ(w:Wc):List Seg:=[.ints .i64 2 [w.lf,w.fr],.ints .i64 1 [w.e],.ints .i64 31 w.zs,.bools 8 w.ad,.ints .i64 1 [w.k],.bytes 32 w.ch,.gen 1 [.row w.bx.length [.bytes w.bx.length w.bx]],.bytes 32 w.tg]
def vB(w:Wc):Int:=aZ w.lf (bg w.fr w.lf)
def yJ(w:Wc):Bool:=(decide (vB w<1)|| !dJ w.zs (16+n1 w.lf))&&(decide (vB w<2)|| !dJ w.zs (16+n2 w.lf))
def nD(h:List UInt8)(w:Wc):Bool:=gF w.e w.zs w.ad w.k&&(aL w.lf&&(decide (w.lf≠w.fr)&&(decide (bZ w.zs w.lf.toNat=pK h)&&(dS w.zs w.fr&&yJ w))))
def sF(h:List UInt8)(w:Wc):PS:=⟨w.e,w.zs,w.ad,w.k,w.ch,w.lf,kQ h,aK h,zB 96,zB 32,zB 32⟩
def yM(h:List UInt8)(w:Wc):Int×Option PS:=
 if nD h w=false then(10,none)
 else if gU (aI (aY (aK h))) w.bx≠0 then(3,none)
 else if w.bx.length-12≠64 then(10,none)
 else if(dI (sF h w) ((fF (aI (aY (aK h))) w.bx).drop 32) (vB w).toNat).1=true then
  (if eB (eT (dI (sF h w) ((fF (aI (aY (aK h))) w.bx).drop 32) (vB w).toNat).2.2 ((fF (aI (aY (aK h))) w.bx).take 32)).ep=w.tg
   then(0,some (eT (dI (sF h w) ((fF (aI (aY (aK h))) w.bx).drop 32) (vB w).toNat).2.2 ((fF (aI (aY (aK h))) w.bx).take 32)))
   else(11,none))
 else(10,none)
def Iq(q:PS)(ab joint tag draw:List UInt8)(j:Nat):Wc:=⟨j,q.lf,q.e,q.zs,q.ad,q.k,q.ch,kF q ab joint draw j,tag⟩
def bm3(a b k:Nat):Bool:=decide (aZ (a:Int) (bg (b:Int) (a:Int))=(k:Int))&&decide (aZ (b:Int) (bg (a:Int) (b:Int))=(k:Int))&&
 (if k=0 then decide (n1 (b:Int)=n1 (a:Int))&&decide (n2 (b:Int)=n2 (a:Int))else if k=1 then decide (n2 (b:Int)=n2 (a:Int))&&decide (n1 (b:Int)≠n1 (a:Int))else decide (n2 (b:Int)≠n2 (a:Int))&&decide (n1 (b:Int)≠n1 (a:Int)))
theorem bC0:((List.range 8).all fun a=>(List.range 8).all fun b=>a==b||((List.range 3).any fun k=>bm3 a b k))=true:=by decide+kernel
theorem meets(a0:0<=a)(a1:a<8)(b0:0<=b)(b1:b<8)(hne:a≠b):∃k:Nat,k<3/\aZ a (bg b a)=k/\aZ b (bg a b)=k/\
  (k=0->n1 b=n1 a/\n2 b=n2 a)/\(k=1->n2 b=n2 a/\n1 b≠n1 a)/\(k=2->n2 b≠n2 a/\n1 b≠n1 a):=by
 obtain⟨i,rfl⟩:=Int.eq_ofNat_of_zero_le a0
 obtain⟨j,rfl⟩:=Int.eq_ofNat_of_zero_le b0
 have h:=List.all_eq_true.1 (List.all_eq_true.1 bC0 i (List.mem_range.2 (by omega))) j (List.mem_range.2 (by omega))
 have hij:(i==j)=false:=by simp;omega
 rw[hij,Bool.false_or,List.any_eq_true]at h
 obtain⟨k,hk,h⟩:=h
 have hk:=List.mem_range.1 hk
 unfold bm3 at h
 rw[Bool.and_eq_true,Bool.and_eq_true,decide_eq_true_eq,decide_eq_true_eq]at h
 obtain⟨⟨h1,h2⟩,h3⟩:=h
 refine⟨k,hk,h1,h2,fun e=>?_,fun e=>?_,fun e=>?_⟩
 ·rw[if_pos e,Bool.and_eq_true,decide_eq_true_eq,decide_eq_true_eq]at h3;exact h3
 ·rw[if_neg (by omega),if_pos e,Bool.and_eq_true,decide_eq_true_eq,decide_eq_true_eq]at h3;exact h3
 ·rw[if_neg (by omega),if_neg (by omega),Bool.and_eq_true,decide_eq_true_eq,decide_eq_true_eq]at h3;exact h3
theorem aS7(hq:Own q)(hc:eX q n ops m vs=0)(d:List UInt8)(hs:s=fq q q.lf n ops){q':PS}(hq':q'=aT q s n ops m vs d){j:Nat}(hj:j<8)(Cc:s.ng.getD j false=true)(hh:bZ q'.zs j=pK h):
  ∃p',yM h (Iq q' (jF (aK d)) (dB q d) (eB q'.ep) d j)=(0,some p')/\Own p'/\Like p' q'/\p'.lf=j/\p'.sg=kQ h:=by
 obtain⟨h1,h2,h3⟩:=comE_0 hc
 obtain⟨g,gk,gm,_⟩:=En hq.inv.zl hq.inv.al h2
 have hg:Goes q.zs s:=by rw[hs];exact g
 have hst:K5 q.zs q.lf.toNat s:=by
  have e:((q.lf.toNat:Nat):Int)=q.lf:=by have:=hq.inv.lf0;omega
  have h2':=h2
  rw[<-e]at h2'
  have:=(EF hq.inv.zl hq.inv.al h2').2
  rw[e]at this
  rw[hs];exact this
 have hown:=xL hq hc d
 rw[<-hs,<-hq']at hown
 have q0:=hq.inv.lf0
 have q1:=hq.inv.lf1
 have hne:(j:Int)≠q.lf:=fun e=>by
  have:q.lf.toNat=j:=by omega
  rw[<-this,hst.ng]at Cc
  cases Cc
 have NW:q'.lf=q.lf:=by rw[hq'];dsimp only[aT,eT,fG,nu,qM]
 have ezs:q'.zs=qY s.zs q.lf (aS (aK d)) (aS (aj (aK d))) (aS (aj (aj (aK d)))) (aS (aj (aj (aj (aK d))))):=by rw[hq'];exact tu q s n ops m vs d
 have eep:q'.ep=RY (dB q d) (bR q'.e q'.zs q'.ad q'.k q'.ch):=by rw[hq'];exact OW q s n ops m vs d
 have ein:q'.sD=Oy q'.ep:=by rw[hq'];exact J6 q s n ops m vs d
 obtain⟨m1,m2,m3,m4⟩:=hg.new j hj Cc
 obtain⟨k,hk3,k1,k2,u0,u1,u2⟩:=meets (a:=(j:Int)) (b:=q.lf) (by omega) (by omega) q0 q1 hne
 have get:=qB hg.zl q0 q1 (aS (aK d)) (aS (aj (aK d))) (aS (aj (aj (aK d)))) (aS (aj (aj (aj (aK d)))))
 rw[<-ezs]at get
 have z2:q'.zs.getD 23 0=aS (aj (aj (aj (aK d)))):=by rw[get,if_pos rfl]
 have z1:n2 (j:Int)=n2 q.lf->q'.zs.getD (16+n2 (j:Int)) 0=aS (aj (aj (aK d))):=fun e=>by rw[get,e];unfold n2;rw[if_neg (by omega),if_pos rfl]
 have z0:n1 (j:Int)=n1 q.lf->q'.zs.getD (16+n1 (j:Int)) 0=aS (aj (aK d)):=fun e=>by rw[get,e];unfold n1 n2;rw[if_neg (by omega),if_neg (by omega),if_pos rfl]
 have y1:n2 (j:Int)≠n2 q.lf->q'.zs.getD (16+n2 (j:Int)) 0=0:=fun e=>by
  rw[get];unfold n1 n2 at*;rw[if_neg (by omega),if_neg (by omega),if_neg (by omega),if_neg (by omega)];exact m3
 have y0:n1 (j:Int)≠n1 q.lf->q'.zs.getD (16+n1 (j:Int)) 0=0:=fun e=>by
  rw[get];unfold n1 n2 at*;rw[if_neg (by omega),if_neg (by omega),if_neg (by omega),if_neg (by omega)];exact m2
 have hup:jl (jF (aK d)) k=(if k=0 then aj (aK d)else if k=1 then aj (aj (aK d))else aj (aj (aj (aK d)))):=by
  rcases(show k=0\/k=1\/k=2 by omega)with rfl|rfl|rfl
  ·exact aG5 _
  ·exact aG6 _
  ·exact aG7 _
 have hjl:(dB q d).length=32:=aq5 _ _
 have hul:(jl (jF (aK d)) k).length=32:=xI (Bv _) hk3
 have ce8:q'.zs.getD (j*2+1) 0=aJ 4 (aI (aY (aK h))):=by
  have h4:=hh
  rw[jg (by have:=hown.inv.zl;omega) hj]at h4
  exact(List.cons.inj (List.cons.inj h4).2).1
 obtain⟨w,hw⟩:∃w,w=Iq q' (jF (aK d)) (dB q d) (eB q'.ep) d j:=⟨_,rfl⟩
 have wl:w.lf=(j:Int):=by rw[hw];dsimp only[Iq]
 have wf:w.fr=q.lf:=by rw[hw];dsimp only[Iq];exact NW
 have we:w.e=q'.e:=by rw[hw];dsimp only[Iq]
 have wz:w.zs=q'.zs:=by rw[hw];dsimp only[Iq]
 have wa:w.ad=q'.ad:=by rw[hw];dsimp only[Iq]
 have wk:w.k=q'.k:=by rw[hw];dsimp only[Iq]
 have wc:w.ch=q'.ch:=by rw[hw];dsimp only[Iq]
 have wt:w.tg=eB q'.ep:=by rw[hw];dsimp only[Iq]
 have wb:w.bx=dH (aJ 4 (aI (aY (aK h)))) (aI (jO d (j:Nat))) (dB q d++jl (jF (aK d)) k):=by
  have:w.bx=dH (q'.zs.getD (j*2+1) 0) (aI (jO d (j:Nat))) (dB q d++jl (jF (aK d)) (aZ q'.lf (bg (j:Nat) q'.lf)).toNat):=by rw[hw];dsimp only[Iq,kF]
  rw[this,ce8,NW,k2,Int.toNat_natCast]
 rw[<-hw]
 have hpl:vB w=k:=by unfold vB;rw[wl,wf];exact k1
 have hfits:nD h w=true:=by
  unfold nD yJ
  have e1:gF w.e w.zs w.ad w.k=true:=by rw[we,wz,wa,wk];exact hown.may
  have e2:aL w.lf=true:=by rw[wl];simp[aL];omega
  have e3:w.lf≠w.fr:=by rw[wl,wf];exact hne
  have e4:bZ w.zs w.lf.toNat=pK h:=by rw[wz,wl,Int.toNat_natCast];exact hh
  have e5:dS w.zs w.fr=true:=by rw[wz,wf,<-NW];exact hown.dS
  have e6:(decide (vB w<1)|| !dJ w.zs (16+n1 w.lf))=true:=by
   rw[hpl,wz,wl]
   rcases(show k=0\/k=1\/k=2 by omega)with rfl|rfl|rfl
   ·rfl
   ·rw[(dX _ _).2 (y0 fun e=>(u1 rfl).2 e.symm)];rfl
   ·rw[(dX _ _).2 (y0 fun e=>(u2 rfl).2 e.symm)];rfl
  have e7:(decide (vB w<2)|| !dJ w.zs (16+n2 w.lf))=true:=by
   rw[hpl,wz,wl]
   rcases(show k=0\/k=1\/k=2 by omega)with rfl|rfl|rfl
   ·rfl
   ·rfl
   ·rw[(dX _ _).2 (y1 fun e=>(u2 rfl).1 e.symm)];rfl
  rw[e1,e2,decide_eq_true e3,decide_eq_true e4,e5,e6,e7];rfl
 obtain⟨b1,b2,b3⟩:=Nz (aY (aK h)) (jO d (j:Nat)) (dB q d++jl (jF (aK d)) k) (by rw[List.length_append,hjl,hul];decide)
 rw[<-wb]at b1 b2 b3
 have cq4:(zB 96).length=96:=by simp
 have az:∀i,i<3->jl (zB 96) i=zB 32:=fun i hi=>by
  unfold jl
  rw[List.drop_replicate,List.take_replicate,show min 32 (96-i*32)=32 by omega]
 have ea:(sF h w).ab=zB 96:=rfl
 have el:(sF h w).lf=(j:Int):=wl
 have ez:(sF h w).zs=q'.zs:=wz
 obtain⟨t1,t2,t3,t4,t5,t6,t7⟩:=Fg (p:=sF h w) cq4 hul hk3 (fun e=>by rw[ez,el,z0 (u0 e).1.symm,hup,if_pos e]) (fun e=>by
   rw[ez,el,hup]
   rcases(show k=0\/k=1 by omega)with rfl|rfl
   ·rw[z1 (u0 rfl).2.symm];rfl
   ·rw[z1 (u1 rfl).1.symm];rfl) (by
   rw[ez,z2,hup]
   rcases(show k=0\/k=1\/k=2 by omega)with rfl|rfl|rfl<;>rfl)
 obtain⟨p2,hp2⟩:∃p2,p2=(dI (sF h w) (jl (jF (aK d)) k) k).2.2:=⟨_,rfl⟩
 rw[<-hp2]at t3 t4 t5 t6 t7
 obtain⟨p',hp'⟩:∃p',p'=eT p2 (dB q d):=⟨_,rfl⟩
 have iw:Like p' q':=by
  have a1:p'.e=q'.e:=by rw[hp'];exact t3.e.trans we
  have a2:p'.zs=q'.zs:=by rw[hp'];exact t3.zs.trans wz
  have a3:p'.ad=q'.ad:=by rw[hp'];exact t3.ad.trans wa
  have a4:p'.k=q'.k:=by rw[hp'];exact t3.k.trans wk
  have a5:p'.ch=q'.ch:=by rw[hp'];exact t3.ch.trans wc
  have a6:p'.ep=q'.ep:=by
   have b1:p'.ep=RY (dB q d) (bR p'.e p'.zs p'.ad p'.k p'.ch):=by rw[hp'];rfl
   rw[b1,eep,a1,a2,a3,a4,a5]
  have a7:p'.sD=q'.sD:=by
   have b1:p'.sD=Oy p'.ep:=by rw[hp'];rfl
   rw[b1,ein,a6]
  exact⟨a1,a2,a3,a4,a5,a6,a7⟩
 have NY:p'.lf=(j:Int):=by rw[hp'];exact t3.lf.trans wl
 have esg:p'.sg=kQ h:=by rw[hp'];exact t3.sg
 have esc:p'.sc=aK h:=by rw[hp'];exact t3.sc
 have Jv:p'.ab=p2.ab:=by rw[hp'];rfl
 rw[ea,az 0 (by decide),hup]at t5
 rw[ea,az 1 (by decide),hup]at t6
 rw[hup]at t7
 refine⟨p',?_,⟨⟨by rw[NY];omega,by rw[NY];omega,by rw[iw.zs];exact hown.inv.zl,by rw[iw.ad];exact hown.inv.al,by rw[iw.ch];exact hown.inv.cl,by rw[esg];exact Qa h,by rw[esc];exact FX h,by rw[Jv];exact t4,by rw[iw.ep];exact hown.inv.el,by rw[iw.sD];exact hown.inv.il,?_,?_,?_⟩,?_,?_,?_,?_,?_⟩,iw,NY,esg⟩
 ·unfold yM
  rw[hfits,if_neg (by decide),if_neg (fun x=>x b1),b3,List.length_append,hjl,hul,if_neg (by decide),b2,List.drop_left' hjl,List.take_left' hjl,hpl,Int.toNat_natCast,if_pos t1,<-hp2,<-hp',if_pos (by rw[wt,iw.ep])]
 ·rw[NY,Jv,iw.zs,t5]
  intro x
  rcases(show k=0\/k=1\/k=2 by omega)with rfl|rfl|rfl
  ·exact(lI _ ((z0 (u0 rfl).1.symm).symm.trans ((dX _ _).1 x))).elim
  ·rfl
  ·rfl
 ·rw[NY,Jv,iw.zs,t6]
  intro x
  rcases(show k=0\/k=1\/k=2 by omega)with rfl|rfl|rfl
  ·exact(lI _ ((z1 (u0 rfl).2.symm).symm.trans ((dX _ _).1 x))).elim
  ·exact(lI _ ((z1 (u1 rfl).1.symm).symm.trans ((dX _ _).1 x))).elim
  ·rfl
 ·rw[iw.zs]
  intro x
  exact(lI _ (z2.symm.trans ((dX _ _).1 x))).elim
 ·rw[iw.e,iw.zs,iw.ad,iw.k];exact hown.may
 ·rw[NY,esg,esc,iw.zs,Int.toNat_natCast];exact hh
 ·rw[NY,Jv,iw.zs,t5]
  intro x
  rcases(show k=0\/k=1\/k=2 by omega)with rfl|rfl|rfl
  ·exact z0 (u0 rfl).1.symm
  ·exact((jK _ _).1 x (y0 fun e=>(u1 rfl).2 e.symm)).elim
  ·exact((jK _ _).1 x (y0 fun e=>(u2 rfl).2 e.symm)).elim
 ·rw[NY,Jv,iw.zs,t6]
  intro x
  rcases(show k=0\/k=1\/k=2 by omega)with rfl|rfl|rfl
  ·exact z1 (u0 rfl).2.symm
  ·exact z1 (u1 rfl).1.symm
  ·exact((jK _ _).1 x (y1 fun e=>(u2 rfl).1 e.symm)).elim
 ·rw[Jv,iw.zs,t7]
  intro x
  rcases(show k=0\/k=1\/k=2 by omega)with rfl|rfl|rfl<;>exact z2
end
section
open Pm
theorem XT{w:Wc}(hf:nD h w=true):gF w.e w.zs w.ad w.k=true/\0<=w.lf/\w.lf<8/\w.lf≠w.fr/\bZ w.zs w.lf.toNat=pK h/\dS w.zs w.fr=true/\yJ w=true:=by
 unfold nD at hf
 simp only[Bool.and_eq_true,decide_eq_true_eq]at hf
 obtain⟨h1,h2,h3,h4,h5,h6⟩:=hf
 unfold aL at h2
 simp only[Bool.and_eq_true,decide_eq_true_eq]at h2
 exact⟨h1,h2.1,h2.2,h3,h4,h5,h6⟩
end
end Go.Proofs.YtegalalmamofdaaGreatDoor
