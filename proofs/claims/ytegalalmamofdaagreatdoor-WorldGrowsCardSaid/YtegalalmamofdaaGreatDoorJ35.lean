/- -/
import Derived.Test.YtegalalmamofdaaGreatDoorJ34
namespace Go.Proofs.YtegalalmamofdaaGreatDoor
set_option linter.all false
set_option maxRecDepth 100000
open Go.RowKit
section
open Pm
structure K5(zs0:List Int)(fr:Nat)(s:Vw):Prop where
 zl:s.zs.length=31
 al:s.ad.length=8
 nl:s.ng.length=8
 gl:s.gn.length=8
 mem:eH s.zs fr=true
 own:bZ s.zs fr=bZ zs0 fr
 ng:s.ng.getD fr false=false
 gn:s.gn.getD fr false=false
theorem K5.step{zs0:List Int}{fr:Nat}(hfr:fr<8){s:Vw}(h:K5 zs0 fr s){o:List Int}(he:je s fr o=0):K5 zs0 fr (iQ s o):=by
 obtain⟨h1,h2,h3,h4,h5,h6,h7,h8⟩:=h
 unfold iQ
 unfold je at he
 by_cases k1:o.getD 0 0=1
 ·rw[if_pos k1]at he ⊢
  obtain⟨hf,hi1,hi2⟩:=errAdd_0 he
  obtain⟨Sm,hfm⟩:=Av hf
  have hne:fr≠jv s.zs:=fun e=>by rw[<-e,h5]at hfm;cases hfm
  refine⟨oP h1 rfl,h2,by simp[h3],h4,?_,?_,?_,h8⟩
  ·rw[qI h1 rfl Sm hfr,if_neg hne];exact h5
  ·rw[qo h1 rfl Sm hfr,if_neg hne];exact h6
  ·show(s.ng.set (jv s.zs) true).getD fr false=false
   rw[kM,if_neg (fun e=>hne e.1.symm)];exact h7
 rw[if_neg k1]at he ⊢
 by_cases k2:o.getD 0 0=2
 ·rw[if_pos k2]at he ⊢
  unfold j5 at he
  have hw:¬(o.getD 1 0=(fr:Int)\/dS s.zs (o.getD 1 0)=false):=fun hx=>by rw[if_pos hx]at he;cases he
  have hm:dS s.zs (o.getD 1 0)=true:=by
   cases hq:dS s.zs (o.getD 1 0)with
   |true=>rfl
   |false=>exact(hw (.inr hq)).elim
  obtain⟨hb0,hb1⟩:=kP hm
  obtain⟨n,hn⟩:=Int.eq_ofNat_of_zero_le hb0
  rw[hn]at hb1 hw ⊢
  have hne:fr≠n:=fun e=>hw (.inl (by rw[e]))
  refine⟨oP h1 rfl,by simp[h2],by simp[h3],by simp[h4],?_,?_,?_,?_⟩
  ·rw[qI h1 rfl (by omega) hfr,if_neg hne];exact h5
  ·rw[qo h1 rfl (by omega) hfr,if_neg hne];exact h6
  ·show(s.ng.set (n:Int).toNat false).getD fr false=false
   rw[Int.toNat_natCast,kM,if_neg (fun e=>hne e.1.symm)];exact h7
  ·show(s.gn.set (n:Int).toNat true).getD fr false=false
   rw[Int.toNat_natCast,kM,if_neg (fun e=>hne e.1.symm)];exact h8
 rw[if_neg k2]
 by_cases k3:o.getD 0 0=3
 ·rw[if_pos k3];exact⟨h1,by simp[h2],h3,h4,h5,h6,h7,h8⟩
 rw[if_neg k3]
 by_cases k4:o.getD 0 0=4
 ·rw[if_pos k4];exact⟨h1,by simp[h2],h3,h4,h5,h6,h7,h8⟩
 rw[if_neg k4]
 exact⟨h1,h2,h3,h4,h5,h6,h7,h8⟩
theorem vv{fr:Int}{ops:List Int}{I:Vw->Prop}(hI:∀s o,I s->je s fr o=0->I (iQ s o)):∀(n j:Nat) (s:Vw),I s->(jD fr ops n j s).1=0->I (jD fr ops n j s).2
 |0,j,s,h,he=>by rw[jD];exact h
 |n+1,j,s,h,he=>by
  rw[jD]at he ⊢
  by_cases h0:je s fr (opAt ops j)=0
  ·rw[if_pos h0]at he ⊢
   exact vv hI n (j+1) _ (hI _ _ h h0) he
  ·rw[if_neg h0]at he
   exact absurd he h0
theorem Ai{e:Int}{s:Vw}{fr:Int}{ops:List Int}{n:Nat}(h:(fC e s fr ops n).1=0):gF e s.zs s.ad s.k=true/\n<=4/\qK ops n=false/\dS s.zs fr=true/\(jD fr ops n 0 s).1=0/\(fC e s fr ops n).2=(jD fr ops n 0 s).2/\(jD fr ops n 0 s).2.k<=((mJ (jD fr ops n 0 s).2.ad:Nat):Int):=by
 unfold fC at h ⊢
 split at h
 ·simp at h
 ·next h1=>
  rw[if_neg h1]
  split at h
  ·simp at h
  ·next h2=>
   rw[if_neg h2]
   split at h
   ·next h3=>exact absurd h h3
   ·next h3=>
    rw[if_neg h3]
    split at h
    ·simp at h
    ·next h4=>
     rw[if_neg h4]
     simp only[Bool.or_eq_true,Bool.not_eq_true',decide_eq_true_eq,not_or]at h1
     refine⟨by simpa using h1.1.1,by omega,by simpa using h1.2,by simpa using h2,Decidable.not_not.1 h3,rfl,by omega⟩
theorem EF{e:Int}{zs:List Int}{ad:List Bool}{k:Int}{fr:Nat}{ops:List Int}{n:Nat}(hz:zs.length=31)(ha:ad.length=8)(h:(fC e ⟨zs,ad,k,F8,F8⟩ fr ops n).1=0):fr<8/\K5 zs fr (fC e ⟨zs,ad,k,F8,F8⟩ fr ops n).2:=by
 obtain⟨h1,h2,h3,h4,h5,h6,h7⟩:=Ai h
 obtain⟨hb0,hb1⟩:=kP h4
 have hfr:fr<8:=by omega
 rw[h6]
 have hm:eH zs fr=true:=by
  have h4':dS zs fr=true:=h4
  unfold dS at h4'
  simpa using(Bool.and_eq_true _ _▸h4').2
 refine⟨hfr,vv (I:=K5 zs fr) (fun s o hs he=>hs.step hfr he) _ _ _ ⟨hz,ha,rfl,rfl,hm,rfl,?_,?_⟩ h5⟩
 ·show F8.getD fr false=false
  rcases fr with _|_|_|_|_|_|_|_|fr<;>first|rfl|omega
 ·show F8.getD fr false=false
  rcases fr with _|_|_|_|_|_|_|_|fr<;>first|rfl|omega
theorem ag5{e:Int}{s:Vw}{fr:Int}(hv:gF e s.zs s.ad s.k=true)(hm:dS s.zs fr=true):fC e s fr [] 0=(0,s):=by
 have hk:s.k<=((mJ s.ad:Nat):Int):=by
  unfold gF at hv
  simp only[Bool.and_eq_true,decide_eq_true_eq]at hv
  exact hv.2
 have hr:jD fr [] 0 0 s=(0,s):=by rw[jD]
 unfold fC
 rw[hv,hm,hr]
 have ho:qK [] 0=false:=by unfold qK;rfl
 rw[ho]
 simp
 omega
end
section
open Pm
theorem Cj(a b:Int):∀i,bZ ([a,b]++List.replicate 29 0) i=if i=0 then[a,b]else if i<8 then[0,0]else[]:=by
 intro i
 rcases i with _|_|_|_|_|_|_|_|i
 all_goals try rfl
 unfold bZ
 rw[List.drop_eq_nil_of_le (by simp;omega),if_neg (by omega),if_neg (by omega)]
 rfl
theorem aS5{a b:Int}(ha:dL a=true)(hb:dL b=true):wQ ([a,b]++List.replicate 29 0)=true:=by
 unfold wQ
 rw[Bool.and_eq_true,List.all_eq_true,List.all_eq_true]
 constructor
 ·intro i hi
  have:=List.mem_range.1 hi
  unfold gM
  rw[Cj]
  by_cases h:i=0
  ·rw[if_pos h];simp[ha,hb]
  ·rw[if_neg h,if_pos this];simp
 ·intro i hi
  have:=List.mem_range.1 hi
  have h0:wV ([a,b]++List.replicate 29 0) i=0:=by
   rcases i with _|_|_|_|_|_|_|_|_|_|_|_|_|_|_|i<;>first|rfl|omega
  unfold jC
  rw[h0]
  rfl
theorem RJ(h:List UInt8):gF (bD h).e (bD h).zs (bD h).ad (bD h).k=true:=by
 have h1:=pY (aI (kQ h)) (iq _)
 have h2:dL (aS (aK h))=true:=pY (aI (aY (aK h))) (iq _)
 show gF 0 ([aJ 4 (aI (kQ h)),aS (aK h)]++List.replicate 29 0) [true,false,false,false,false,false,false,false] 1=true
 unfold gF
 rw[aS5 h1 h2]
 have h3:oq ([aJ 4 (aI (kQ h)),aS (aK h)]++List.replicate 29 0) [true,false,false,false,false,false,false,false] 8=true:=by
  unfold oq
  rw[List.all_eq_true]
  intro i hi
  have hi:=List.mem_range.1 hi
  by_cases h:i=0
  ·subst h
   unfold eH
   rw[Cj,if_pos rfl]
   have:=Cg h1
   simp[this]
  ·rcases i with _|_|_|_|_|_|_|_|i<;>first|omega|rfl
 rw[h3]
 rfl
end
noncomputable section
open Pm
attribute [local irreducible] aN aQ bq aJ aI eY dL bP aD aC aF bn aY aj bR fC fu bT dH jm eG
def TL:List A->(bC->Prop)->Prop
 |[.agg [.ints .i64 31 zs],.v (.int .i64 x),.agg [.bools 8 bt]],K=>K (.o 204 2 (bT zs x bt).length [.ints .i64 ((bT zs x bt).length*2) (jf (bT zs x bt))])
 |_,_=>False
theorem YU:∀args K,TL args K->∃r,aV 125 args r/\K r:=by
 intro args K h
 unfold TL at h
 split at h
 ·exact⟨_,Wi _ _ _,h⟩
 ·exact h.elim
theorem Wh(zs:List Int)(bt:List Bool)(x:Int):∀n,∀p∈dP zs bt x n,0<=p.1/\p.1<n/\0<=p.2/\p.2<15
 |0,p,h=>by simp[dP]at h
 |n+1,p,h=>by
  rw[dP,List.mem_append]at h
  rcases h with h|h
  ·obtain⟨h1,h2,h3,h4⟩:=Wh zs bt x n p h
   exact⟨h1,by omega,h3,h4⟩
  ·unfold eZ at h
   obtain⟨m,hm,rfl⟩:=List.mem_map.1 h
   obtain⟨h5,h6⟩:=tL zs 3 _ m (List.mem_filter.1 hm).1
   exact⟨by simp,by show(n:Int)<((n+1:Nat):Int);omega,h5,h6⟩
theorem Px{zs:List Int}{bt:List Bool}{x:Int}{p:Int×Int}(h:p∈bT zs x bt):0<=p.1/\p.1<3/\0<=p.2/\p.2<15:=by
 unfold bT at h
 split at h
 ·exact Wh zs bt x 3 p h
 ·simp at h
theorem CJ(zs:List Int)(bt:List Bool)(x:Int):(bT zs x bt).length<=24:=by
 unfold bT
 split
 ·exact zF zs bt x 3
 ·simp
theorem Am:∀(l:List (Int×Int)) (j:Nat),j<l.length->((jf l).drop (j*2)).take 2=[(l.getD j (0,0)).1,(l.getD j (0,0)).2]
 |[],j,h=>by simp at h
 |p::l,0,_=>by simp[jf]
 |p::l,j+1,h=>by
  have:=Am l j (by simpa using h)
  rw[show(j+1)*2=j*2+2 by omega]
  simpa[jf]using this
theorem Ub(bx:Nat->List UInt8)(j:Nat):vO bx (j+1)=vO bx j++[.row (bx j).length [.bytes (bx j).length (bx j)]]:=by
 unfold vO
 rw[List.range_succ,List.map_append]
 rfl
def bW6:ak:=bW5.add 125 TL YU (.of Tryz.func125)
def Vn:ak:=bW6.bM1 126 WC (P6 WE) (.of Tryz.func126)
set_option maxHeartbeats 2000000 in
theorem ac1(p:PS)(zs:List Int)(ng:List Bool)(draw:List UInt8):bV 88 0 (.var (aP p)) [.agg [.ints .i64 31 zs],.agg [.bools 8 ng],.agg [.bytes 32 draw]]
  (.o 35 1 (bT zs p.lf ng).length [.gen (bT zs p.lf ng).length (vO (uw zs p.lf ng p.ab draw) (bT zs p.lf ng).length)]) (.var (aP p)):=by
 refine iH (E:=Vn) Tryz.func88 Tryz.ntmps88 ?_
 have hL:=CJ zs ng p.lf
 have hin:∀q∈bT zs p.lf ng,0<=q.1/\q.1<3/\0<=q.2/\q.2<15:=fun q=>Px
 refine ah ?_
 have hbx:∀j,uw zs p.lf ng p.ab draw j=Di zs p.ab draw j ((bT zs p.lf ng).getD j (0,0)):=fun j=>rfl
 generalize uw zs p.lf ng p.ab draw=bx at*
 generalize bT zs p.lf ng=pl at*
 refine aX.mk (qp [0,5,6,7,9,22,23,24] [0,1,2,3,4,5] 9 35 1 [.gen 0 []] pl.length (fun j=>⟨.ptr 0 0::.au::.au::.au::.au::.ptr 1 0::.ptr 2 0::.ptr 3 0::.au::.own 5 j::dz 12 (.own 4 pl.length::.d (.v (.int .i64 pl.length))::.d (.v (.int .i64 (j:Nat)))::dz 32 []),[some (.var (aP p)),some (.var [.ints .i64 31 zs]),some (.var [.bools 8 ng]),some (.var [.bytes 32 draw]),some (.sl 204 2 pl.length [.ints .i64 (pl.length*2) (jf pl)]),some (.sl 35 1 j [.gen j (vO bx j)])]⟩) ?_)
 intro j hj hl
 by_cases h:j<pl.length
 ·have h1:(j:Int)<(pl.length:Int):=by omega
  have hf:=Am pl j h
  have hm:pl.getD j (0,0)∈pl:=by rw[List.getD_eq_getElem?_getD,List.getElem?_eq_getElem h];exact List.getElem_mem h
  obtain⟨a0,a1,b0,b1⟩:=hin _ hm
  have hbj:=hbx j
  have hsucc:=Ub bx j
  generalize pl.getD j (0,0)=q at*
  obtain⟨q,m⟩:=q
  simp only at a0 a1 b0 b1 hf
  refine ah ?_
  rw[hf]
  obtain rfl|rfl|rfl:q=0\/q=1\/q=2:=by omega
  ·refine ah ?_;(try exact⟨⟩)
   refine hl.go h [0,5,6,7,9,22,23,24] [0,1,2,3,4,5] ?_
   rw[hsucc,hbj]
   unfold Di jl jm
   rfl
  ·refine ah ?_;(try exact⟨⟩)
   refine hl.go h [0,5,6,7,9,22,23,24] [0,1,2,3,4,5] ?_
   rw[hsucc,hbj]
   unfold Di jl jm
   rfl
  ·refine ah ?_;(try exact⟨⟩)
   refine hl.go h [0,5,6,7,9,22,23,24] [0,1,2,3,4,5] ?_
   rw[hsucc,hbj]
   unfold Di jl jm
   rfl
 ·obtain rfl:j=pl.length:=by omega
  have h1:¬(pl.length:Int)<(pl.length:Int):=by omega
  refine ah ?_;(try exact⟨⟩)
end
end Go.Proofs.YtegalalmamofdaaGreatDoor
