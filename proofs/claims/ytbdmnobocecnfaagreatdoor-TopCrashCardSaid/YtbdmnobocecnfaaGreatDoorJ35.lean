/-
  Operations done: what stays of the committer, who is new. Mathematics; no function is named here.
-/
import Derived.Test.YtbdmnobocecnfaaGreatDoorJ34
namespace Go.Proofs.YtbdmnobocecnfaaGreatDoor
set_option linter.unusedVariables false
set_option linter.unusedSimpArgs false
set_option maxRecDepth 100000
open Go.RowKit
section
open Pm
structure Stay(zs0:List Int)(fr:Nat)(s:Vw):Prop where
 zl:s.zs.length=31
 al:s.ad.length=8
 nl:s.ng.length=8
 gl:s.gn.length=8
 mem:memL s.zs fr=true
 own:leafP s.zs fr=leafP zs0 fr
 ng:s.ng.getD fr false=false
 gn:s.gn.getD fr false=false
theorem Stay.step{zs0:List Int}{fr:Nat}(hfr:fr<8){s:Vw}(h:Stay zs0 fr s){o:List Int}(he:errOp s fr o=0):Stay zs0 fr (nextOp s o):=by
 obtain⟨h1,h2,h3,h4,h5,h6,h7,h8⟩:=h
 unfold nextOp
 unfold errOp at he
 by_cases k1:o.getD 0 0=1
 ·rw[if_pos k1]at he ⊢
  obtain⟨hf,hi1,hi2⟩:=errAdd_0 he
  obtain⟨hf8,hfm⟩:=free_lt hf
  have hne:fr≠freeN s.zs:=fun e=>by rw[←e,h5]at hfm;cases hfm
  refine⟨putL_length h1 rfl,h2,by simp[h3],h4,?_,?_,?_,h8⟩
  ·rw[memL_put h1 rfl hf8 hfr,if_neg hne];exact h5
  ·rw[leafP_put h1 rfl hf8 hfr,if_neg hne];exact h6
  ·show(s.ng.set (freeN s.zs) true).getD fr false=false
   rw[getD_setB,if_neg (fun e=>hne e.1.symm)];exact h7
 rw[if_neg k1]at he ⊢
 by_cases k2:o.getD 0 0=2
 ·rw[if_pos k2]at he ⊢
  unfold errRem at he
  have hw:¬(o.getD 1 0=(fr:Int)∨memB s.zs (o.getD 1 0)=false):=fun hx=>by rw[if_pos hx]at he;cases he
  have hm:memB s.zs (o.getD 1 0)=true:=by
   cases hq:memB s.zs (o.getD 1 0)with
   |true=>rfl
   |false=>exact(hw (.inr hq)).elim
  obtain⟨hb0,hb1⟩:=memB_bd hm
  obtain⟨n,hn⟩:=Int.eq_ofNat_of_zero_le hb0
  rw[hn]at hb1 hw ⊢
  have hne:fr≠n:=fun e=>hw (.inl (by rw[e]))
  refine⟨putL_length h1 rfl,by simp[h2],by simp[h3],by simp[h4],?_,?_,?_,?_⟩
  ·rw[memL_put h1 rfl (by omega) hfr,if_neg hne];exact h5
  ·rw[leafP_put h1 rfl (by omega) hfr,if_neg hne];exact h6
  ·show(s.ng.set (n:Int).toNat false).getD fr false=false
   rw[Int.toNat_natCast,getD_setB,if_neg (fun e=>hne e.1.symm)];exact h7
  ·show(s.gn.set (n:Int).toNat true).getD fr false=false
   rw[Int.toNat_natCast,getD_setB,if_neg (fun e=>hne e.1.symm)];exact h8
 rw[if_neg k2]
 by_cases k3:o.getD 0 0=3
 ·rw[if_pos k3];exact⟨h1,by simp[h2],h3,h4,h5,h6,h7,h8⟩
 rw[if_neg k3]
 by_cases k4:o.getD 0 0=4
 ·rw[if_pos k4];exact⟨h1,by simp[h2],h3,h4,h5,h6,h7,h8⟩
 rw[if_neg k4]
 exact⟨h1,h2,h3,h4,h5,h6,h7,h8⟩
theorem runE_keeps{fr:Int}{ops:List Int}{I:Vw→Prop}(hI:∀s o,I s→errOp s fr o=0→I (nextOp s o)):∀(n j:Nat) (s:Vw),I s→(runE fr ops n j s).1=0→I (runE fr ops n j s).2
 |0,j,s,h,he=>by rw[runE];exact h
 |n+1,j,s,h,he=>by
  rw[runE]at he ⊢
  by_cases h0:errOp s fr (opAt ops j)=0
  ·rw[if_pos h0]at he ⊢
   exact runE_keeps hI n (j+1) _ (hI _ _ h h0) he
  ·rw[if_neg h0]at he
   exact absurd he h0
theorem doR_yes{e:Int}{s:Vw}{fr:Int}{ops:List Int}{n:Nat}(h:(doR e s fr ops n).1=0):mayV e s.zs s.ad s.k=true∧n≤4∧oddTo ops n=false∧memB s.zs fr=true∧(runE fr ops n 0 s).1=0∧(doR e s fr ops n).2=(runE fr ops n 0 s).2∧(runE fr ops n 0 s).2.k≤((cntB (runE fr ops n 0 s).2.ad:Nat):Int):=by
 unfold doR at h ⊢
 split at h
 ·simp at h
 ·next h1=>
  rw[if_neg h1]
  split at h
  ·simp at h
  ·next h2=>
   rw[if_neg h2]
   split at h
   ·next h3=>exact absurd h h3
   ·next h3=>
    rw[if_neg h3]
    split at h
    ·simp at h
    ·next h4=>
     rw[if_neg h4]
     simp only[Bool.or_eq_true,Bool.not_eq_true',decide_eq_true_eq,not_or]at h1
     refine⟨by simpa using h1.1.1,by omega,by simpa using h1.2,by simpa using h2,Decidable.not_not.1 h3,rfl,by omega⟩
theorem stay_of{e:Int}{zs:List Int}{ad:List Bool}{k:Int}{fr:Nat}{ops:List Int}{n:Nat}(hz:zs.length=31)(ha:ad.length=8)(h:(doR e ⟨zs,ad,k,F8,F8⟩ fr ops n).1=0):fr<8∧Stay zs fr (doR e ⟨zs,ad,k,F8,F8⟩ fr ops n).2:=by
 obtain⟨h1,h2,h3,h4,h5,h6,h7⟩:=doR_yes h
 obtain⟨hb0,hb1⟩:=memB_bd h4
 have hfr:fr<8:=by omega
 rw[h6]
 have hm:memL zs fr=true:=by
  have h4':memB zs fr=true:=h4
  unfold memB at h4'
  simpa using(Bool.and_eq_true _ _▸h4').2
 refine⟨hfr,runE_keeps (I:=Stay zs fr) (fun s o hs he=>hs.step hfr he) _ _ _ ⟨hz,ha,rfl,rfl,hm,rfl,?_,?_⟩ h5⟩
 ·show F8.getD fr false=false
  rcases fr with _|_|_|_|_|_|_|_|fr<;>first|rfl|omega
 ·show F8.getD fr false=false
  rcases fr with _|_|_|_|_|_|_|_|fr<;>first|rfl|omega
end
section
open Pm
theorem leafP_one(a b:Int):∀i,leafP ([a,b]++List.replicate 29 0) i=if i=0 then[a,b]else if i<8 then[0,0]else[]:=by
 intro i
 rcases i with _|_|_|_|_|_|_|_|i
 all_goals try rfl
 unfold leafP
 rw[List.drop_eq_nil_of_le (by simp;omega),if_neg (by omega),if_neg (by omega)]
 rfl
theorem isT_one{a b:Int}(ha:isI a=true)(hb:isI b=true):isT ([a,b]++List.replicate 29 0)=true:=by
 unfold isT
 rw[Bool.and_eq_true,List.all_eq_true,List.all_eq_true]
 constructor
 ·intro i hi
  have:=List.mem_range.1 hi
  unfold leafOK
  rw[leafP_one]
  by_cases h:i=0
  ·rw[if_pos h];simp[ha,hb]
  ·rw[if_neg h,if_pos this];simp
 ·intro i hi
  have:=List.mem_range.1 hi
  have h0:nodeV ([a,b]++List.replicate 29 0) i=0:=by
   rcases i with _|_|_|_|_|_|_|_|_|_|_|_|_|_|_|i<;>first|rfl|omega
  unfold nodeOK
  rw[h0]
  rfl
theorem create_may(h:List UInt8):mayV (createP h).e (createP h).zs (createP h).ad (createP h).k=true:=by
 have h1:=isI_pub (scal (sgnW h)) (scal_bd _)
 have h2:isI (nodeY (lefW h))=true:=isI_pub (scal (nodeW (lefW h))) (scal_bd _)
 show mayV 0 ([powI 4 (scal (sgnW h)),nodeY (lefW h)]++List.replicate 29 0) [true,false,false,false,false,false,false,false] 1=true
 unfold mayV
 rw[isT_one h1 h2]
 have h3:admTo ([powI 4 (scal (sgnW h)),nodeY (lefW h)]++List.replicate 29 0) [true,false,false,false,false,false,false,false] 8=true:=by
  unfold admTo
  rw[List.all_eq_true]
  intro i hi
  have hi:=List.mem_range.1 hi
  by_cases h:i=0
  ·subst h
   unfold memL
   rw[leafP_one,if_pos rfl]
   have:=isI_ne h1
   simp[this]
  ·rcases i with _|_|_|_|_|_|_|_|i<;>first|omega|rfl
 rw[h3]
 rfl
end
section
open Pm
attribute [local irreducible] condK LoopA regA powI scal mulI isI fourB deriveW numB numsB bodyB nodeW nextW viewHV doR chkV planL sealB boxD keyZ
def planS':List A→(Res→Prop)→Prop
 |[.agg [.ints .i64 31 zs],.v (.int .i64 x),.agg [.bools 8 bt]],K=>K (.o 201 2 (planL zs x bt).length [.ints .i64 ((planL zs x bt).length*2) (flat2 (planL zs x bt))])
 |_,_=>False
theorem planS'_ok:∀args K,planS' args K→∃r,FnO 121 args r∧K r:=by
 intro args K h
 unfold planS' at h
 split at h
 ·exact⟨_,plan_ok _ _ _,h⟩
 ·exact h.elim
theorem plan_in(zs:List Int)(bt:List Bool)(x:Int):∀n,∀p∈planTo zs bt x n,0≤p.1∧p.1<n∧0≤p.2∧p.2<15
 |0,p,h=>by simp[planTo]at h
 |n+1,p,h=>by
  rw[planTo,List.mem_append]at h
  rcases h with h|h
  ·obtain⟨h1,h2,h3,h4⟩:=plan_in zs bt x n p h
   exact⟨h1,by omega,h3,h4⟩
  ·unfold pairsK at h
   obtain⟨m,hm,rfl⟩:=List.mem_map.1 h
   obtain⟨h5,h6⟩:=resF_node zs 3 _ m (List.mem_filter.1 hm).1
   exact⟨by simp,by show(n:Int)<((n+1:Nat):Int);omega,h5,h6⟩
theorem planL_in{zs:List Int}{bt:List Bool}{x:Int}{p:Int×Int}(h:p∈planL zs x bt):0≤p.1∧p.1<3∧0≤p.2∧p.2<15:=by
 unfold planL at h
 split at h
 ·exact plan_in zs bt x 3 p h
 ·simp at h
theorem planL_len(zs:List Int)(bt:List Bool)(x:Int):(planL zs x bt).length≤24:=by
 unfold planL
 split
 ·exact planTo_len zs bt x 3
 ·simp
theorem flat2_at:∀(l:List (Int×Int)) (j:Nat),j<l.length→((flat2 l).drop (j*2)).take 2=[(l.getD j (0,0)).1,(l.getD j (0,0)).2]
 |[],j,h=>by simp at h
 |p::l,0,_=>by simp[flat2]
 |p::l,j+1,h=>by
  have:=flat2_at l j (by simpa using h)
  rw[show(j+1)*2=j*2+2 by omega]
  simpa[flat2]using this
theorem rowsF_succ(bx:Nat→List UInt8)(j:Nat):rowsF bx (j+1)=rowsF bx j++[.row (bx j).length [.bytes (bx j).length (bx j)]]:=by
 unfold rowsF
 rw[List.range_succ,List.map_append]
 rfl
noncomputable def envR0:EnvX:=envQw.add 121 planS' planS'_ok ⟨_,Tryz.func121,by kernel_rfl,by kernel_rfl⟩
noncomputable def envR1:EnvX:=envR0.addF 122 sealS (sealS_of seal_fn) ⟨_,Tryz.func122,by kernel_rfl,by kernel_rfl⟩
set_option maxHeartbeats 2000000 in
theorem boxes_fn(p:PS)(zs:List Int)(ng:List Bool)(draw:List UInt8):FnMO 84 0 (.var (pSegs p)) [.agg [.ints .i64 31 zs],.agg [.bools 8 ng],.agg [.bytes 32 draw]]
  (.o 35 1 (planL zs p.lf ng).length [.gen (planL zs p.lf ng).length (rowsF (boxesP zs p.lf ng p.ab draw) (planL zs p.lf ng).length)]) (.var (pSegs p)):=by
 refine fnMA (E:=envR1) Tryz.func84 Tryz.ntmps84 ?_
 have hL:=planL_len zs ng p.lf
 have hin:∀q∈planL zs p.lf ng,0≤q.1∧q.1<3∧0≤q.2∧q.2<15:=fun q=>planL_in
 refine agow ?_;(try exact⟨⟩)
 have hbx:∀j,boxesP zs p.lf ng p.ab draw j=boxOf zs p.ab draw j ((planL zs p.lf ng).getD j (0,0)):=fun j=>rfl
 generalize boxesP zs p.lf ng p.ab draw=bx at*
 generalize planL zs p.lf ng=pl at*
 refine StopL.mk (loop_forN [0,5,6,7,9,22,23,24] [0,1,2,3,4,5] 9 35 1 [.gen 0 []] pl.length (fun j=>⟨[.ptr 0 0,.dead,.dead,.dead,.dead,.ptr 1 0,.ptr 2 0,.ptr 3 0,.dead,.own 5 j,.dead,.dead,.dead,.dead,.dead,.dead,.dead,.dead,.dead,.dead,.dead,.dead,.own 4 pl.length,.d (.v (.int .i64 pl.length)),.d (.v (.int .i64 (j:Nat))),.dead,.dead,.dead,.dead,.dead,.dead,.dead,.dead,.dead,.dead,.dead,.dead,.dead,.dead,.dead,.dead,.dead,.dead,.dead,.dead,.dead,.dead,.dead,.dead,.dead,.dead,.dead,.dead,.dead,.dead,.dead,.dead],[some (.var (pSegs p)),some (.var [.ints .i64 31 zs]),some (.var [.bools 8 ng]),some (.var [.bytes 32 draw]),some (.sl 201 2 pl.length [.ints .i64 (pl.length*2) (flat2 pl)]),some (.sl 35 1 j [.gen j (rowsF bx j)])]⟩) ?_)
 intro j hj hl
 by_cases h:j<pl.length
 ·have h1:(j:Int)<(pl.length:Int):=by omega
  have hf:=flat2_at pl j h
  have hm:pl.getD j (0,0)∈pl:=by rw[List.getD_eq_getElem?_getD,List.getElem?_eq_getElem h];exact List.getElem_mem h
  obtain⟨a0,a1,b0,b1⟩:=hin _ hm
  have hbj:=hbx j
  have hsucc:=rowsF_succ bx j
  generalize pl.getD j (0,0)=q at*
  obtain⟨q,m⟩:=q
  simp only at a0 a1 b0 b1 hf
  refine agow ?_;(try exact⟨⟩)
  rw[hf]
  obtain rfl|rfl|rfl:q=0∨q=1∨q=2:=by omega
  ·refine agow ?_;(try exact⟨⟩)
   refine hl.go h [0,5,6,7,9,22,23,24] [0,1,2,3,4,5] ?_
   rw[hsucc,hbj]
   unfold boxOf abK boxD
   rfl
  ·refine agow ?_;(try exact⟨⟩)
   refine hl.go h [0,5,6,7,9,22,23,24] [0,1,2,3,4,5] ?_
   rw[hsucc,hbj]
   unfold boxOf abK boxD
   rfl
  ·refine agow ?_;(try exact⟨⟩)
   refine hl.go h [0,5,6,7,9,22,23,24] [0,1,2,3,4,5] ?_
   rw[hsucc,hbj]
   unfold boxOf abK boxD
   rfl
 ·obtain rfl:j=pl.length:=by omega
  have h1:¬(pl.length:Int)<(pl.length:Int):=by omega
  refine agow ?_;(try exact⟨⟩)
end
end Go.Proofs.YtbdmnobocecnfaaGreatDoor
