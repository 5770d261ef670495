/-
  Operations done: what stays of the committer, who is new. Mathematics; no function is named here.
-/
import Derived.Test.YtjhgelfnmhdihaaGreatDoorJ34
namespace Go.Proofs.YtjhgelfnmhdihaaGreatDoor
set_option linter.unusedVariables false
set_option linter.unusedSimpArgs false
set_option maxRecDepth 100000
open Go.RowKit
section
open Pm
structure CF(zs0:List Int)(fr:Nat)(s:Vw):Prop where
 zl:s.zs.length=31
 al:s.ad.length=8
 nl:s.ng.length=8
 gl:s.gn.length=8
 mem:dF s.zs fr=true
 own:bq s.zs fr=bq zs0 fr
 ng:s.ng.getD fr false=false
 gn:s.gn.getD fr false=false
theorem CF.step{zs0:List Int}{fr:Nat}(hfr:fr<8){s:Vw}(h:CF zs0 fr s){o:List Int}(he:eX s fr o=0):CF zs0 fr (eG s o):=by
 obtain⟨h1,h2,h3,h4,h5,h6,h7,h8⟩:=h
 unfold eG
 unfold eX at he
 by_cases k1:o.getD 0 0=1
 ·rw[if_pos k1]at he ⊢
  obtain⟨hf,hi1,hi2⟩:=errAdd_0 he
  obtain⟨Fp,hfm⟩:=oJ hf
  have hne:fr≠dH s.zs:=fun e=>by rw[←e,h5]at hfm;cases hfm
  refine⟨iI h1 rfl,h2,by simp[h3],h4,?_,?_,?_,h8⟩
  ·rw[lu h1 rfl Fp hfr,if_neg hne];exact h5
  ·rw[jv h1 rfl Fp hfr,if_neg hne];exact h6
  ·show(s.ng.set (dH s.zs) true).getD fr false=false
   rw[iK,if_neg (fun e=>hne e.1.symm)];exact h7
 rw[if_neg k1]at he ⊢
 by_cases k2:o.getD 0 0=2
 ·rw[if_pos k2]at he ⊢
  unfold fC at he
  have hw:¬(o.getD 1 0=(fr:Int)∨bn s.zs (o.getD 1 0)=false):=fun hx=>by rw[if_pos hx]at he;cases he
  have hm:bn s.zs (o.getD 1 0)=true:=by
   cases hq:bn s.zs (o.getD 1 0)with
   |true=>rfl
   |false=>exact(hw (.inr hq)).elim
  obtain⟨hb0,hb1⟩:=fA hm
  obtain⟨n,hn⟩:=Int.eq_ofNat_of_zero_le hb0
  rw[hn]at hb1 hw ⊢
  have hne:fr≠n:=fun e=>hw (.inl (by rw[e]))
  refine⟨iI h1 rfl,by simp[h2],by simp[h3],by simp[h4],?_,?_,?_,?_⟩
  ·rw[lu h1 rfl (by omega) hfr,if_neg hne];exact h5
  ·rw[jv h1 rfl (by omega) hfr,if_neg hne];exact h6
  ·show(s.ng.set (n:Int).toNat false).getD fr false=false
   rw[Int.toNat_natCast,iK,if_neg (fun e=>hne e.1.symm)];exact h7
  ·show(s.gn.set (n:Int).toNat true).getD fr false=false
   rw[Int.toNat_natCast,iK,if_neg (fun e=>hne e.1.symm)];exact h8
 rw[if_neg k2]
 by_cases k3:o.getD 0 0=3
 ·rw[if_pos k3];exact⟨h1,by simp[h2],h3,h4,h5,h6,h7,h8⟩
 rw[if_neg k3]
 by_cases k4:o.getD 0 0=4
 ·rw[if_pos k4];exact⟨h1,by simp[h2],h3,h4,h5,h6,h7,h8⟩
 rw[if_neg k4]
 exact⟨h1,h2,h3,h4,h5,h6,h7,h8⟩
theorem tu{fr:Int}{ops:List Int}{I:Vw→Prop}(hI:∀s o,I s→eX s fr o=0→I (eG s o)):∀(n j:Nat) (s:Vw),I s→(gP fr ops n j s).1=0→I (gP fr ops n j s).2
 |0,j,s,h,he=>by rw[gP];exact h
 |n+1,j,s,h,he=>by
  rw[gP]at he ⊢
  by_cases h0:eX s fr (opAt ops j)=0
  ·rw[if_pos h0]at he ⊢
   exact tu hI n (j+1) _ (hI _ _ h h0) he
  ·rw[if_neg h0]at he
   exact absurd he h0
theorem yH{e:Int}{s:Vw}{fr:Int}{ops:List Int}{n:Nat}(h:(cZ e s fr ops n).1=0):dU e s.zs s.ad s.k=true∧n≤4∧iV ops n=false∧bn s.zs fr=true∧(gP fr ops n 0 s).1=0∧(cZ e s fr ops n).2=(gP fr ops n 0 s).2∧(gP fr ops n 0 s).2.k≤((jh (gP fr ops n 0 s).2.ad:Nat):Int):=by
 unfold cZ at h ⊢
 split at h
 ·simp at h
 ·next h1=>
  rw[if_neg h1]
  split at h
  ·simp at h
  ·next h2=>
   rw[if_neg h2]
   split at h
   ·next h3=>exact absurd h h3
   ·next h3=>
    rw[if_neg h3]
    split at h
    ·simp at h
    ·next h4=>
     rw[if_neg h4]
     simp only[Bool.or_eq_true,Bool.not_eq_true',decide_eq_true_eq,not_or]at h1
     refine⟨by simpa using h1.1.1,by omega,by simpa using h1.2,by simpa using h2,Decidable.not_not.1 h3,rfl,by omega⟩
theorem wu{e:Int}{zs:List Int}{ad:List Bool}{k:Int}{fr:Nat}{ops:List Int}{n:Nat}(hz:zs.length=31)(ha:ad.length=8)(h:(cZ e ⟨zs,ad,k,F8,F8⟩ fr ops n).1=0):fr<8∧CF zs fr (cZ e ⟨zs,ad,k,F8,F8⟩ fr ops n).2:=by
 obtain⟨h1,h2,h3,h4,h5,h6,h7⟩:=yH h
 obtain⟨hb0,hb1⟩:=fA h4
 have hfr:fr<8:=by omega
 rw[h6]
 have hm:dF zs fr=true:=by
  have h4':bn zs fr=true:=h4
  unfold bn at h4'
  simpa using(Bool.and_eq_true _ _▸h4').2
 refine⟨hfr,tu (I:=CF zs fr) (fun s o hs he=>hs.step hfr he) _ _ _ ⟨hz,ha,rfl,rfl,hm,rfl,?_,?_⟩ h5⟩
 ·show F8.getD fr false=false
  rcases fr with _|_|_|_|_|_|_|_|fr<;>first|rfl|omega
 ·show F8.getD fr false=false
  rcases fr with _|_|_|_|_|_|_|_|fr<;>first|rfl|omega
theorem KE{e:Int}{s:Vw}{fr:Int}(hv:dU e s.zs s.ad s.k=true)(hm:bn s.zs fr=true):cZ e s fr [] 0=(0,s):=by
 have hk:s.k≤((jh s.ad:Nat):Int):=by
  unfold dU at hv
  simp only[Bool.and_eq_true,decide_eq_true_eq]at hv
  exact hv.2
 have hr:gP fr [] 0 0 s=(0,s):=by rw[gP]
 unfold cZ
 rw[hv,hm,hr]
 have ho:iV [] 0=false:=by unfold iV;rfl
 rw[ho]
 simp
 omega
end
section
open Pm
theorem vO(a b:Int):∀i,bq ([a,b]++List.replicate 29 0) i=if i=0 then[a,b]else if i<8 then[0,0]else[]:=by
 intro i
 rcases i with _|_|_|_|_|_|_|_|i
 all_goals try rfl
 unfold bq
 rw[List.drop_eq_nil_of_le (by simp;omega),if_neg (by omega),if_neg (by omega)]
 rfl
theorem ar4{a b:Int}(ha:cO a=true)(hb:cO b=true):rQ ([a,b]++List.replicate 29 0)=true:=by
 unfold rQ
 rw[Bool.and_eq_true,List.all_eq_true,List.all_eq_true]
 constructor
 ·intro i hi
  have:=List.mem_range.1 hi
  unfold eY
  rw[vO]
  by_cases h:i=0
  ·rw[if_pos h];simp[ha,hb]
  ·rw[if_neg h,if_pos this];simp
 ·intro i hi
  have:=List.mem_range.1 hi
  have h0:ze ([a,b]++List.replicate 29 0) i=0:=by
   rcases i with _|_|_|_|_|_|_|_|_|_|_|_|_|_|_|i<;>first|rfl|omega
  unfold gK
  rw[h0]
  rfl
theorem NY(h:List UInt8):bn (aY h).zs 0=true:=by
 have h1:=nO (au (jm h)) (dL _)
 show bn ([aA 4 (au (jm h)),aI (aC h)]++List.replicate 29 0) 0=true
 unfold bn dF
 show(aG 0&&decide (bq _ 0≠[0,0]))=true
 rw[vO,if_pos rfl]
 have:=xC h1
 simp[aG,this]
theorem C9(h:List UInt8):dU (aY h).e (aY h).zs (aY h).ad (aY h).k=true:=by
 have h1:=nO (au (jm h)) (dL _)
 have h2:cO (aI (aC h))=true:=nO (au (av (aC h))) (dL _)
 show dU 0 ([aA 4 (au (jm h)),aI (aC h)]++List.replicate 29 0) [true,false,false,false,false,false,false,false] 1=true
 unfold dU
 rw[ar4 h1 h2]
 have h3:kV ([aA 4 (au (jm h)),aI (aC h)]++List.replicate 29 0) [true,false,false,false,false,false,false,false] 8=true:=by
  unfold kV
  rw[List.all_eq_true]
  intro i hi
  have hi:=List.mem_range.1 hi
  by_cases h:i=0
  ·subst h
   unfold dF
   rw[vO,if_pos rfl]
   have:=xC h1
   simp[this]
  ·rcases i with _|_|_|_|_|_|_|_|i<;>first|omega|rfl
 rw[h3]
 rfl
theorem FX(h:List UInt8):cZ (aY h).e ⟨(aY h).zs,(aY h).ad,(aY h).k,F8,F8⟩ (aY h).lf [] 0=(0,⟨(aY h).zs,(aY h).ad,(aY h).k,F8,F8⟩):=
 KE (C9 h) (NY h)
theorem NW(h:List UInt8):bW (aY h) 0 [] 0 []=0:=by
 unfold bW
 rw[FX h]
 rfl
end
section
open Pm
attribute [local irreducible] aU aZ bR aA au dB cO bD aF bZ aN aT av ak aR cZ bX aQ bK gB bA
def Px:List A→(bP→Prop)→Prop
 |[.agg [.ints .i64 31 zs],.v (.int .i64 x),.agg [.bools 8 bt]],K=>K (.o 134 2 (aQ zs x bt).length [.ints .i64 ((aQ zs x bt).length*2) (bI (aQ zs x bt))])
 |_,_=>False
theorem U4:∀args K,Px args K→∃r,aP 59 args r∧K r:=by
 intro args K h
 unfold Px at h
 split at h
 ·exact⟨_,R6 _ _ _,h⟩
 ·exact h.elim
theorem R5(zs:List Int)(bt:List Bool)(x:Int):∀n,∀p∈bB zs bt x n,0≤p.1∧p.1<n∧0≤p.2∧p.2<15
 |0,p,h=>by simp[bB]at h
 |n+1,p,h=>by
  rw[bB,List.mem_append]at h
  rcases h with h|h
  ·obtain⟨h1,h2,h3,h4⟩:=R5 zs bt x n p h
   exact⟨h1,by omega,h3,h4⟩
  ·unfold d9 at h
   obtain⟨m,hm,rfl⟩:=List.mem_map.1 h
   obtain⟨h5,h6⟩:=oZ zs 3 _ m (List.mem_filter.1 hm).1
   exact⟨by simp,by show(n:Int)<((n+1:Nat):Int);omega,h5,h6⟩
theorem zh{zs:List Int}{bt:List Bool}{x:Int}{p:Int×Int}(h:p∈aQ zs x bt):0≤p.1∧p.1<3∧0≤p.2∧p.2<15:=by
 unfold aQ at h
 split at h
 ·exact R5 zs bt x 3 p h
 ·simp at h
theorem oW(zs:List Int)(bt:List Bool)(x:Int):(aQ zs x bt).length≤24:=by
 unfold aQ
 split
 ·exact sU zs bt x 3
 ·simp
theorem uH:∀(l:List (Int×Int)) (j:Nat),j<l.length→((bI l).drop (j*2)).take 2=[(l.getD j (0,0)).1,(l.getD j (0,0)).2]
 |[],j,h=>by simp at h
 |p::l,0,_=>by simp[bI]
 |p::l,j+1,h=>by
  have:=uH l j (by simpa using h)
  rw[show(j+1)*2=j*2+2 by omega]
  simpa[bI]using this
theorem sZ(bx:Nat→List UInt8)(j:Nat):qE bx (j+1)=qE bx j++[.row (bx j).length [.bytes (bx j).length (bx j)]]:=by
 unfold qE
 rw[List.range_succ,List.map_append]
 rfl
noncomputable def bf9:ay:=bf8.add 59 Px U4 ⟨_,Tryz.func59,by kernel_rfl,by kernel_rfl⟩
noncomputable def Rh:ay:=bf9.al0 106 He (zC Sz) ⟨_,Tryz.func106,by kernel_rfl,by kernel_rfl⟩
set_option maxHeartbeats 2000000 in
theorem Xd(p:PS)(zs:List Int)(ng:List Bool)(draw:List UInt8):gq 49 0 (.var (bN p)) [.agg [.ints .i64 31 zs],.agg [.bools 8 ng],.agg [.bytes 32 draw]]
  (.o 78 1 (aQ zs p.lf ng).length [.gen (aQ zs p.lf ng).length (qE (qO zs p.lf ng p.ab draw) (aQ zs p.lf ng).length)]) (.var (bN p)):=by
 refine mY (E:=Rh) Tryz.func49 Tryz.ntmps49 ?_
 have hL:=oW zs ng p.lf
 have hin:∀q∈aQ zs p.lf ng,0≤q.1∧q.1<3∧0≤q.2∧q.2<15:=fun q=>zh
 refine aj ?_;(try exact⟨⟩)
 have hbx:∀j,qO zs p.lf ng p.ab draw j=AP zs p.ab draw j ((aQ zs p.lf ng).getD j (0,0)):=fun j=>rfl
 generalize qO zs p.lf ng p.ab draw=bx at*
 generalize aQ zs p.lf ng=pl at*
 refine aM.mk (jw [0,5,6,7,9,22,23,24] [0,1,2,3,4,5] 9 78 1 [.gen 0 []] pl.length (fun j=>⟨[.ptr 0 0,.ah,.ah,.ah,.ah,.ptr 1 0,.ptr 2 0,.ptr 3 0,.ah,.own 5 j,.ah,.ah,.ah,.ah,.ah,.ah,.ah,.ah,.ah,.ah,.ah,.ah,.own 4 pl.length,.d (.v (.int .i64 pl.length)),.d (.v (.int .i64 (j:Nat))),.ah,.ah,.ah,.ah,.ah,.ah,.ah,.ah,.ah,.ah,.ah,.ah,.ah,.ah,.ah,.ah,.ah,.ah,.ah,.ah,.ah,.ah,.ah,.ah,.ah,.ah,.ah,.ah,.ah,.ah,.ah,.ah],[some (.var (bN p)),some (.var [.ints .i64 31 zs]),some (.var [.bools 8 ng]),some (.var [.bytes 32 draw]),some (.sl 134 2 pl.length [.ints .i64 (pl.length*2) (bI pl)]),some (.sl 78 1 j [.gen j (qE bx j)])]⟩) ?_)
 intro j hj hl
 by_cases h:j<pl.length
 ·have h1:(j:Int)<(pl.length:Int):=by omega
  have hf:=uH pl j h
  have hm:pl.getD j (0,0)∈pl:=by rw[List.getD_eq_getElem?_getD,List.getElem?_eq_getElem h];exact List.getElem_mem h
  obtain⟨a0,a1,b0,b1⟩:=hin _ hm
  have hbj:=hbx j
  have hsucc:=sZ bx j
  generalize pl.getD j (0,0)=q at*
  obtain⟨q,m⟩:=q
  simp only at a0 a1 b0 b1 hf
  refine aj ?_;(try exact⟨⟩)
  rw[hf]
  obtain rfl|rfl|rfl:q=0∨q=1∨q=2:=by omega
  ·refine aj ?_;(try exact⟨⟩)
   refine hl.go h [0,5,6,7,9,22,23,24] [0,1,2,3,4,5] ?_
   rw[hsucc,hbj]
   unfold AP dS gB
   rfl
  ·refine aj ?_;(try exact⟨⟩)
   refine hl.go h [0,5,6,7,9,22,23,24] [0,1,2,3,4,5] ?_
   rw[hsucc,hbj]
   unfold AP dS gB
   rfl
  ·refine aj ?_;(try exact⟨⟩)
   refine hl.go h [0,5,6,7,9,22,23,24] [0,1,2,3,4,5] ?_
   rw[hsucc,hbj]
   unfold AP dS gB
   rfl
 ·obtain rfl:j=pl.length:=by omega
  have h1:¬(pl.length:Int)<(pl.length:Int):=by omega
  refine aj ?_;(try exact⟨⟩)
end
end Go.Proofs.YtjhgelfnmhdihaaGreatDoor
