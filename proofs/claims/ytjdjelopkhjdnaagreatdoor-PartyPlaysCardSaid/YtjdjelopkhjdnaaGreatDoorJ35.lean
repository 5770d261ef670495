/-
  Operations done: what stays of the committer, who is new. Mathematics; no function is named here.
-/
import Derived.Test.YtjdjelopkhjdnaaGreatDoorJ34
namespace Go.Proofs.YtjdjelopkhjdnaaGreatDoor
set_option linter.unusedVariables false
set_option linter.unusedSimpArgs false
set_option maxRecDepth 100000
open Go.RowKit
section
open Pm
structure Ct(zs0:List Int)(fr:Nat)(s:Vw):Prop where
 zl:s.zs.length=31
 al:s.ad.length=8
 nl:s.ng.length=8
 gl:s.gn.length=8
 mem:dK s.zs fr=true
 own:bq s.zs fr=bq zs0 fr
 ng:s.ng.getD fr false=false
 gn:s.gn.getD fr false=false
theorem Ct.step{zs0:List Int}{fr:Nat}(hfr:fr<8){s:Vw}(h:Ct zs0 fr s){o:List Int}(he:fq s fr o=0):Ct zs0 fr (fV s o):=by
 obtain⟨h1,h2,h3,h4,h5,h6,h7,h8⟩:=h
 unfold fV
 unfold fq at he
 by_cases k1:o.getD 0 0=1
 ·rw[if_pos k1]at he ⊢
  obtain⟨hf,hi1,hi2⟩:=errAdd_0 he
  obtain⟨EZ,hfm⟩:=oz hf
  have hne:fr≠dG s.zs:=fun e=>by rw[←e,h5]at hfm;cases hfm
  refine⟨jZ h1 rfl,h2,by simp[h3],h4,?_,?_,?_,h8⟩
  ·rw[l7 h1 rfl EZ hfr,if_neg hne];exact h5
  ·rw[lS h1 rfl EZ hfr,if_neg hne];exact h6
  ·show(s.ng.set (dG s.zs) true).getD fr false=false
   rw[iF,if_neg (fun e=>hne e.1.symm)];exact h7
 rw[if_neg k1]at he ⊢
 by_cases k2:o.getD 0 0=2
 ·rw[if_pos k2]at he ⊢
  unfold gH at he
  have hw:¬(o.getD 1 0=(fr:Int)∨bn s.zs (o.getD 1 0)=false):=fun hx=>by rw[if_pos hx]at he;cases he
  have hm:bn s.zs (o.getD 1 0)=true:=by
   cases hq:bn s.zs (o.getD 1 0)with
   |true=>rfl
   |false=>exact(hw (.inr hq)).elim
  obtain⟨hb0,hb1⟩:=eX hm
  obtain⟨n,hn⟩:=Int.eq_ofNat_of_zero_le hb0
  rw[hn]at hb1 hw ⊢
  have hne:fr≠n:=fun e=>hw (.inl (by rw[e]))
  refine⟨jZ h1 rfl,by simp[h2],by simp[h3],by simp[h4],?_,?_,?_,?_⟩
  ·rw[l7 h1 rfl (by omega) hfr,if_neg hne];exact h5
  ·rw[lS h1 rfl (by omega) hfr,if_neg hne];exact h6
  ·show(s.ng.set (n:Int).toNat false).getD fr false=false
   rw[Int.toNat_natCast,iF,if_neg (fun e=>hne e.1.symm)];exact h7
  ·show(s.gn.set (n:Int).toNat true).getD fr false=false
   rw[Int.toNat_natCast,iF,if_neg (fun e=>hne e.1.symm)];exact h8
 rw[if_neg k2]
 by_cases k3:o.getD 0 0=3
 ·rw[if_pos k3];exact⟨h1,by simp[h2],h3,h4,h5,h6,h7,h8⟩
 rw[if_neg k3]
 by_cases k4:o.getD 0 0=4
 ·rw[if_pos k4];exact⟨h1,by simp[h2],h3,h4,h5,h6,h7,h8⟩
 rw[if_neg k4]
 exact⟨h1,h2,h3,h4,h5,h6,h7,h8⟩
theorem sW{fr:Int}{ops:List Int}{I:Vw→Prop}(hI:∀s o,I s→fq s fr o=0→I (fV s o)):∀(n j:Nat) (s:Vw),I s→(gU fr ops n j s).1=0→I (gU fr ops n j s).2
 |0,j,s,h,he=>by rw[gU];exact h
 |n+1,j,s,h,he=>by
  rw[gU]at he ⊢
  by_cases h0:fq s fr (opAt ops j)=0
  ·rw[if_pos h0]at he ⊢
   exact sW hI n (j+1) _ (hI _ _ h h0) he
  ·rw[if_neg h0]at he
   exact absurd he h0
theorem yE{e:Int}{s:Vw}{fr:Int}{ops:List Int}{n:Nat}(h:(dh e s fr ops n).1=0):dQ e s.zs s.ad s.k=true∧n≤4∧iR ops n=false∧bn s.zs fr=true∧(gU fr ops n 0 s).1=0∧(dh e s fr ops n).2=(gU fr ops n 0 s).2∧(gU fr ops n 0 s).2.k≤((jq (gU fr ops n 0 s).2.ad:Nat):Int):=by
 unfold dh at h ⊢
 split at h
 ·simp at h
 ·next h1=>
  rw[if_neg h1]
  split at h
  ·simp at h
  ·next h2=>
   rw[if_neg h2]
   split at h
   ·next h3=>exact absurd h h3
   ·next h3=>
    rw[if_neg h3]
    split at h
    ·simp at h
    ·next h4=>
     rw[if_neg h4]
     simp only[Bool.or_eq_true,Bool.not_eq_true',decide_eq_true_eq,not_or]at h1
     refine⟨by simpa using h1.1.1,by omega,by simpa using h1.2,by simpa using h2,Decidable.not_not.1 h3,rfl,by omega⟩
theorem vY{e:Int}{zs:List Int}{ad:List Bool}{k:Int}{fr:Nat}{ops:List Int}{n:Nat}(hz:zs.length=31)(ha:ad.length=8)(h:(dh e ⟨zs,ad,k,F8,F8⟩ fr ops n).1=0):fr<8∧Ct zs fr (dh e ⟨zs,ad,k,F8,F8⟩ fr ops n).2:=by
 obtain⟨h1,h2,h3,h4,h5,h6,h7⟩:=yE h
 obtain⟨hb0,hb1⟩:=eX h4
 have hfr:fr<8:=by omega
 rw[h6]
 have hm:dK zs fr=true:=by
  have h4':bn zs fr=true:=h4
  unfold bn at h4'
  simpa using(Bool.and_eq_true _ _▸h4').2
 refine⟨hfr,sW (I:=Ct zs fr) (fun s o hs he=>hs.step hfr he) _ _ _ ⟨hz,ha,rfl,rfl,hm,rfl,?_,?_⟩ h5⟩
 ·show F8.getD fr false=false
  rcases fr with _|_|_|_|_|_|_|_|fr<;>first|rfl|omega
 ·show F8.getD fr false=false
  rcases fr with _|_|_|_|_|_|_|_|fr<;>first|rfl|omega
theorem Xz{e:Int}{s:Vw}{fr:Int}(hv:dQ e s.zs s.ad s.k=true)(hm:bn s.zs fr=true):dh e s fr [] 0=(0,s):=by
 have hk:s.k≤((jq s.ad:Nat):Int):=by
  unfold dQ at hv
  simp only[Bool.and_eq_true,decide_eq_true_eq]at hv
  exact hv.2
 have hr:gU fr [] 0 0 s=(0,s):=by rw[gU]
 unfold dh
 rw[hv,hm,hr]
 have ho:iR [] 0=false:=by unfold iR;rfl
 rw[ho]
 simp
 omega
end
section
open Pm
theorem vJ(a b:Int):∀i,bq ([a,b]++List.replicate 29 0) i=if i=0 then[a,b]else if i<8 then[0,0]else[]:=by
 intro i
 rcases i with _|_|_|_|_|_|_|_|i
 all_goals try rfl
 unfold bq
 rw[List.drop_eq_nil_of_le (by simp;omega),if_neg (by omega),if_neg (by omega)]
 rfl
theorem aq5{a b:Int}(ha:cK a=true)(hb:cK b=true):rQ ([a,b]++List.replicate 29 0)=true:=by
 unfold rQ
 rw[Bool.and_eq_true,List.all_eq_true,List.all_eq_true]
 constructor
 ·intro i hi
  have:=List.mem_range.1 hi
  unfold eG
  rw[vJ]
  by_cases h:i=0
  ·rw[if_pos h];simp[ha,hb]
  ·rw[if_neg h,if_pos this];simp
 ·intro i hi
  have:=List.mem_range.1 hi
  have h0:y7 ([a,b]++List.replicate 29 0) i=0:=by
   rcases i with _|_|_|_|_|_|_|_|_|_|_|_|_|_|_|i<;>first|rfl|omega
  unfold gI
  rw[h0]
  rfl
theorem NH(h:List UInt8):bn (aY h).zs 0=true:=by
 have h1:=nD (au (jP h)) (fZ _)
 show bn ([aA 4 (au (jP h)),aH (aC h)]++List.replicate 29 0) 0=true
 unfold bn dK
 show(aG 0&&decide (bq _ 0≠[0,0]))=true
 rw[vJ,if_pos rfl]
 have:=xw h1
 simp[aG,this]
theorem CU(h:List UInt8):dQ (aY h).e (aY h).zs (aY h).ad (aY h).k=true:=by
 have h1:=nD (au (jP h)) (fZ _)
 have h2:cK (aH (aC h))=true:=nD (au (ay (aC h))) (fZ _)
 show dQ 0 ([aA 4 (au (jP h)),aH (aC h)]++List.replicate 29 0) [true,false,false,false,false,false,false,false] 1=true
 unfold dQ
 rw[aq5 h1 h2]
 have h3:kQ ([aA 4 (au (jP h)),aH (aC h)]++List.replicate 29 0) [true,false,false,false,false,false,false,false] 8=true:=by
  unfold kQ
  rw[List.all_eq_true]
  intro i hi
  have hi:=List.mem_range.1 hi
  by_cases h:i=0
  ·subst h
   unfold dK
   rw[vJ,if_pos rfl]
   have:=xw h1
   simp[this]
  ·rcases i with _|_|_|_|_|_|_|_|i<;>first|omega|rfl
 rw[h3]
 rfl
theorem FK(h:List UInt8):dh (aY h).e ⟨(aY h).zs,(aY h).ad,(aY h).k,F8,F8⟩ (aY h).lf [] 0=(0,⟨(aY h).zs,(aY h).ad,(aY h).k,F8,F8⟩):=
 Xz (CU h) (NH h)
theorem NG(h:List UInt8):bZ (aY h) 0 [] 0 []=0:=by
 unfold bZ
 rw[FK h]
 rfl
end
section
open Pm
attribute [local irreducible] aV aZ bQ aA au dA cK bC aF bW aN aU ay ak aT dh bX aR bI fU bB
def O9:List A→(bP→Prop)→Prop
 |[.agg [.ints .i64 31 zs],.v (.int .i64 x),.agg [.bools 8 bt]],K=>K (.o 119 2 (aR zs x bt).length [.ints .i64 ((aR zs x bt).length*2) (bF (aR zs x bt))])
 |_,_=>False
theorem UM:∀args K,O9 args K→∃r,aQ 62 args r∧K r:=by
 intro args K h
 unfold O9 at h
 split at h
 ·exact⟨_,RI _ _ _,h⟩
 ·exact h.elim
theorem RH(zs:List Int)(bt:List Bool)(x:Int):∀n,∀p∈bA zs bt x n,0≤p.1∧p.1<n∧0≤p.2∧p.2<15
 |0,p,h=>by simp[bA]at h
 |n+1,p,h=>by
  rw[bA,List.mem_append]at h
  rcases h with h|h
  ·obtain⟨h1,h2,h3,h4⟩:=RH zs bt x n p h
   exact⟨h1,by omega,h3,h4⟩
  ·unfold dX at h
   obtain⟨m,hm,rfl⟩:=List.mem_map.1 h
   obtain⟨h5,h6⟩:=oN zs 3 _ m (List.mem_filter.1 hm).1
   exact⟨by simp,by show(n:Int)<((n+1:Nat):Int);omega,h5,h6⟩
theorem y9{zs:List Int}{bt:List Bool}{x:Int}{p:Int×Int}(h:p∈aR zs x bt):0≤p.1∧p.1<3∧0≤p.2∧p.2<15:=by
 unfold aR at h
 split at h
 ·exact RH zs bt x 3 p h
 ·simp at h
theorem oM(zs:List Int)(bt:List Bool)(x:Int):(aR zs x bt).length≤24:=by
 unfold aR
 split
 ·exact sN zs bt x 3
 ·simp
theorem uy:∀(l:List (Int×Int)) (j:Nat),j<l.length→((bF l).drop (j*2)).take 2=[(l.getD j (0,0)).1,(l.getD j (0,0)).2]
 |[],j,h=>by simp at h
 |p::l,0,_=>by simp[bF]
 |p::l,j+1,h=>by
  have:=uy l j (by simpa using h)
  rw[show(j+1)*2=j*2+2 by omega]
  simpa[bF]using this
theorem sU(bx:Nat→List UInt8)(j:Nat):qA bx (j+1)=qA bx j++[.row (bx j).length [.bytes (bx j).length (bx j)]]:=by
 unfold qA
 rw[List.range_succ,List.map_append]
 rfl
noncomputable def be3:av:=be2.add 62 O9 UM ⟨_,Tryz.func62,by kernel_rfl,by kernel_rfl⟩
noncomputable def QV:av:=be3.ak4 84 GQ (zq Sd) ⟨_,Tryz.func84,by kernel_rfl,by kernel_rfl⟩
set_option maxHeartbeats 2000000 in
theorem WS(p:PS)(zs:List Int)(ng:List Bool)(draw:List UInt8):fK 36 0 (.var (bL p)) [.agg [.ints .i64 31 zs],.agg [.bools 8 ng],.agg [.bytes 32 draw]]
  (.o 77 1 (aR zs p.lf ng).length [.gen (aR zs p.lf ng).length (qA (qJ zs p.lf ng p.ab draw) (aR zs p.lf ng).length)]) (.var (bL p)):=by
 refine mP (E:=QV) Tryz.func36 Tryz.ntmps36 ?_
 have hL:=oM zs ng p.lf
 have hin:∀q∈aR zs p.lf ng,0≤q.1∧q.1<3∧0≤q.2∧q.2<15:=fun q=>y9
 refine aj ?_;(try exact⟨⟩)
 have hbx:∀j,qJ zs p.lf ng p.ab draw j=Az zs p.ab draw j ((aR zs p.lf ng).getD j (0,0)):=fun j=>rfl
 generalize qJ zs p.lf ng p.ab draw=bx at*
 generalize aR zs p.lf ng=pl at*
 refine aM.mk (jk [0,5,6,7,9,22,23,24] [0,1,2,3,4,5] 9 77 1 [.gen 0 []] pl.length (fun j=>⟨[.ptr 0 0,.ah,.ah,.ah,.ah,.ptr 1 0,.ptr 2 0,.ptr 3 0,.ah,.own 5 j,.ah,.ah,.ah,.ah,.ah,.ah,.ah,.ah,.ah,.ah,.ah,.ah,.own 4 pl.length,.d (.v (.int .i64 pl.length)),.d (.v (.int .i64 (j:Nat))),.ah,.ah,.ah,.ah,.ah,.ah,.ah,.ah,.ah,.ah,.ah,.ah,.ah,.ah,.ah,.ah,.ah,.ah,.ah,.ah,.ah,.ah,.ah,.ah,.ah,.ah,.ah,.ah,.ah,.ah,.ah,.ah],[some (.var (bL p)),some (.var [.ints .i64 31 zs]),some (.var [.bools 8 ng]),some (.var [.bytes 32 draw]),some (.sl 119 2 pl.length [.ints .i64 (pl.length*2) (bF pl)]),some (.sl 77 1 j [.gen j (qA bx j)])]⟩) ?_)
 intro j hj hl
 by_cases h:j<pl.length
 ·have h1:(j:Int)<(pl.length:Int):=by omega
  have hf:=uy pl j h
  have hm:pl.getD j (0,0)∈pl:=by rw[List.getD_eq_getElem?_getD,List.getElem?_eq_getElem h];exact List.getElem_mem h
  obtain⟨a0,a1,b0,b1⟩:=hin _ hm
  have hbj:=hbx j
  have hsucc:=sU bx j
  generalize pl.getD j (0,0)=q at*
  obtain⟨q,m⟩:=q
  simp only at a0 a1 b0 b1 hf
  refine aj ?_;(try exact⟨⟩)
  rw[hf]
  obtain rfl|rfl|rfl:q=0∨q=1∨q=2:=by omega
  ·refine aj ?_;(try exact⟨⟩)
   refine hl.go h [0,5,6,7,9,22,23,24] [0,1,2,3,4,5] ?_
   rw[hsucc,hbj]
   unfold Az dO fU
   rfl
  ·refine aj ?_;(try exact⟨⟩)
   refine hl.go h [0,5,6,7,9,22,23,24] [0,1,2,3,4,5] ?_
   rw[hsucc,hbj]
   unfold Az dO fU
   rfl
  ·refine aj ?_;(try exact⟨⟩)
   refine hl.go h [0,5,6,7,9,22,23,24] [0,1,2,3,4,5] ?_
   rw[hsucc,hbj]
   unfold Az dO fU
   rfl
 ·obtain rfl:j=pl.length:=by omega
  have h1:¬(pl.length:Int)<(pl.length:Int):=by omega
  refine aj ?_;(try exact⟨⟩)
end
end Go.Proofs.YtjdjelopkhjdnaaGreatDoor
