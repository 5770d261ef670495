/- -/
import Derived.Test.YtegalalmamofdaaGreatDoorJ3
import Derived.Laws.Slices
import Derived.Laws.AppendOwn
import Derived.Lib.SliceRun
import Derived.Lib.ConvBytes
import Derived.Laws.Tables
namespace Go.Proofs.YtegalalmamofdaaGreatDoor
set_option linter.all false
set_option maxRecDepth 100000
open Go.RowKit
variable{S:Nat->Prop}{base b q n off sz:Nat}{G:Nat->Option (List Seg)}{ρ:Nat->Option Value}{a:Act}{w:World}{op:BinOp}{t yt e:TypeId}{x y ix:Operand}{r:Bool}{l:List Seg}{i:TI}{z:Int}{k:IntKind}
section
theorem mP(r o n:Nat):(⟨r,o,none⟩:Addr).add n=⟨r,o+n,none⟩:=by unfold Addr.add;split<;>simp_all
section
variable {E : ak} {o : Oper} {s : St} {fr : Nat}
theorem Good.ref{w0:W0 G}{s:St}(g:Good S base w0 s ρ a w)(h:s.bk b≠none):∃u,ρ b=some u:=by
 have:=g.b b
 cases hk:s.bk b with
 |none=>exact absurd hk h
 |some x=>
  rw[hk]at this
  cases x with
  |var l=>obtain⟨r,_,_,h,_⟩:=this;exact⟨_,h⟩
  |sl e sz n l=>obtain⟨u,_,h,_⟩:=this;exact⟨_,h⟩
  |obj p=>obtain⟨r,_,_,h,_⟩:=this;exact⟨_,h⟩
  |abs p=>obtain⟨r,_,h,_⟩:=this;exact⟨_,h⟩
  |vh l off p e sz n m=>obtain⟨r,_,_,_,_,h,_⟩:=this;exact⟨_,h⟩
  |gone=>obtain⟨_,h⟩:=this;exact⟨_,h⟩
  |bx=>obtain⟨_,_,_,_,h,_⟩:=this;exact⟨_,h⟩
theorem Kj(ho:o.op=.binOp op t x y yt)(hx:s.ev x=.ptr b base)(hy:s.ev y=.d (.v (.pointer none)))(hu:E.P.underlying t=some (.pointer (E.P.pointee t)))
  (hr:op=.eql/\r=false\/op=.neq/\r=true):cO E o s fr (.d (.v (.bool r))) none:=by
 refine .pure (fun b hb=>by simp[T.refs]at hb) fun S base0 w0 s' ρ a w hs g=>⟨_,?_,.v _⟩
 have hm:x∈o.op.operands:=by rw[ho];simp[Op.operands]
 have h1:=bB hs g hm hx
 have h2:=bA hs g (by rw[ho];simp[Op.operands]) hy
 obtain⟨u,hu'⟩:=g.ref (g.nP x b (by rw[(hs x hm).1,hx];simp[T.refs]))
 obtain⟨q,_,h4⟩:=h1 u hu'
 have h3:=run_equalIn_pointer_nil (P:=E.P) (w:=w) 9999 t (some ⟨q,base,none⟩) hu
 rcases hr with⟨rfl,rfl⟩|⟨rfl,rfl⟩
 ·simp[execOp,ho,h4,h2,Sem.run_bind,eqGuard,binOp,Op.equal,Op.maxDepth,h3]
 ·simp[execOp,ho,h4,h2,Sem.run_bind,eqGuard,binOp,Op.equal,Op.maxDepth,h3]
theorem Pg(ho:o.op=.binOp op t x y yt)(hx:s.ev x=.ob b)(hy:s.ev y=.d (.v (.pointer none)))(hu:E.P.underlying t=some (.pointer (E.P.pointee t)))
  (hr:op=.eql/\r=false\/op=.neq/\r=true):cO E o s fr (.d (.v (.bool r))) none:=by
 refine .pure (fun b hb=>by simp[T.refs]at hb) fun S base0 w0 s' ρ a w hs g=>⟨_,?_,.v _⟩
 have hm:x∈o.op.operands:=by rw[ho];simp[Op.operands]
 have h1:=bB hs g hm hx
 have h2:=bA hs g (by rw[ho];simp[Op.operands]) hy
 obtain⟨u,hu'⟩:=g.ref (g.nP x b (by rw[(hs x hm).1,hx];simp[T.refs]))
 obtain⟨q,F,rfl,h4⟩:=h1 u hu'
 have h3:=run_equalIn_pointer_nil (P:=E.P) (w:=w) 9999 t (some ⟨q,0,none⟩) hu
 rcases hr with⟨rfl,rfl⟩|⟨rfl,rfl⟩
 ·simp[execOp,ho,h4,h2,Sem.run_bind,eqGuard,binOp,Op.equal,Op.maxDepth,h3]
 ·simp[execOp,ho,h4,h2,Sem.run_bind,eqGuard,binOp,Op.equal,Op.maxDepth,h3]
theorem Gq(ho:o.op=.binOp op t x y yt)(hx:s.ev x=.d (.sref l q))(hy:s.ev y=.d (.v (.pointer none)))(hu:E.P.underlying t=some (.pointer (E.P.pointee t)))
  (hr:op=.eql/\r=false\/op=.neq/\r=true):cO E o s fr (.d (.v (.bool r))) none:=by
 refine .pure (fun b hb=>by simp[T.refs]at hb) fun S base0 w0 s' ρ a w hs g=>⟨_,?_,.v _⟩
 have hm:x∈o.op.operands:=by rw[ho];simp[Op.operands]
 have h1:=bB hs g hm hx
 have h2:=bA hs g (by rw[ho];simp[Op.operands]) hy
 obtain⟨ad,h4⟩:∃ad,a.eval x=.pointer (some ad):=by
  have h5:RA _ w (.sref l q) (a.eval x):=h1
  generalize a.eval x=v at h5
  cases h5 with|sref _ _=>exact⟨_,rfl⟩
 have h3:=run_equalIn_pointer_nil (P:=E.P) (w:=w) 9999 t (some ad) hu
 rcases hr with⟨rfl,rfl⟩|⟨rfl,rfl⟩
 ·simp[execOp,ho,h4,h2,Sem.run_bind,eqGuard,binOp,Op.equal,Op.maxDepth,h3]
 ·simp[execOp,ho,h4,h2,Sem.run_bind,eqGuard,binOp,Op.equal,Op.maxDepth,h3]
theorem Ph{ad:Option Addr}{n c n' c':Nat}(ho:o.op=.binOp op t x y yt)(hx:s.ev x=.d (.v (.slice ad n c)))(hy:s.ev y=.d (.v (.slice none n' c')))(hu:E.P.underlying t=some (.slice (E.P.elem t)))
  (hr:op=.eql/\r=ad.isNone\/op=.neq/\r=!ad.isNone):cO E o s fr (.d (.v (.bool r))) none:=by
 refine .pure (fun b hb=>by simp[T.refs]at hb) fun S base0 w0 s' ρ a w hs g=>⟨_,?_,.v _⟩
 have h1:=bA hs g (by rw[ho];simp[Op.operands]) hx
 have h2:=bA hs g (by rw[ho];simp[Op.operands]) hy
 have h3:=Lib.run_equalIn_slice_nil (P:=E.P) w 9999 t _ ad n c n' c' hu
 rcases hr with⟨rfl,rfl⟩|⟨rfl,rfl⟩
 ·simp[execOp,ho,h1,h2,Sem.run_bind,eqGuard,binOp,Op.equal,Op.maxDepth,h3]
 ·simp[execOp,ho,h1,h2,Sem.run_bind,eqGuard,binOp,Op.equal,Op.maxDepth,h3]
theorem Kk{n n' c':Nat}(ho:o.op=.binOp op t x y yt)(hx:s.ev x=.d (.row n l))(hy:s.ev y=.d (.v (.slice none n' c')))(hn:n≠0)(hu:E.P.underlying t=some (.slice (E.P.elem t)))
  (hr:op=.eql/\r=false\/op=.neq/\r=true):cO E o s fr (.d (.v (.bool r))) none:=by
 refine .pure (fun b hb=>by simp[T.refs]at hb) fun S base0 w0 s' ρ a w hs g=>⟨_,?_,.v _⟩
 have hm:x∈o.op.operands:=by rw[ho];simp[Op.operands]
 have h1:=bB hs g hm hx
 have h2:=bA hs g (by rw[ho];simp[Op.operands]) hy
 obtain⟨ad,c,h4⟩:∃ad c,a.eval x=.slice (some ad) n c:=by
  have h5:RA _ w (.row n l) (a.eval x):=h1
  generalize a.eval x=v at h5
  cases h5 with
  |row k1 k2 k3 k4 k5=>
   rename_i c cs ad
   cases ad with
   |none=>have:=k4 rfl;omega
   |some ad=>exact⟨_,_,rfl⟩
 have h3:=Lib.run_equalIn_slice_nil (P:=E.P) w 9999 t _ (some ad) n c n' c' hu
 rcases hr with⟨rfl,rfl⟩|⟨rfl,rfl⟩
 ·simp[execOp,ho,h4,h2,Sem.run_bind,eqGuard,binOp,Op.equal,Op.maxDepth,h3]
 ·simp[execOp,ho,h4,h2,Sem.run_bind,eqGuard,binOp,Op.equal,Op.maxDepth,h3]
theorem aV5{src dst:TypeId}{b:ByteArray}(ho:o.op=.convert src dst x)(hd:E.Y dst=some i)(hsl:i.sl=true)(hsrc:E.P.underlying src=some .string)(he:E.P.underlying i.elem=some (.int .u8))(hb:b.size<=1000000000)(hx:s.ev x=.d (.v (.string b))):
  cO E o s fr (.d (.row b.size [.bytes b.size b.data.toList])) none:=by
 have hm:x∈o.op.operands:=by rw[ho];simp[Op.operands]
 refine⟨fun b hb=>by simp[T.refs]at hb,fun b x e=>(by cases e),fun S base w0 s' ρ a w K Q hs g _ _ hK=>?_⟩
 have h1:=bA hs g hm hx
 have hu:=(E.hY dst i hd).sl hsl
 have hrun:=Lib.run_convert_string_bytes (P:=E.P) w src dst i.elem b hsrc hu he
 have hbel:w.grownBy (Lib.bytesWorld w i.elem b) none:=⟨rfl,rfl,rfl,by rw[Lib.bytesWorld_size];omega,fun k hk _=>Lib.bytesWorld_at_old w i.elem b k hk⟩
 obtain⟨g2,k2⟩:=g.grow hbel
 unfold Oper.wp execOp
 simp only[ho,h1,Sem.run_bind,hrun,Result.andThen_ok,Sem.run_pure]
 refine hK _ _ ρ (g2.put' o.dst (t:=.d _) ?_ (by simp[T.refs]))
 have hbl:b.data.toList.length=b.size:=Array.length_toList
 refine .row (.ofBytes (bs:=b.data.toList) hbl rfl) (grownCap_ge w b.size 0 i.elem) (grownCap_le_maxLen w b.size 0 i.elem (by unfold maxLen;omega)) (fun e=>by cases e) (.inr ⟨w.heap.size,0,rfl,⟨.inr g.size,fun b' u hb' hu'=>?_⟩,by rw[Lib.bytesWorld_size];omega,fun j hj=>?_⟩)
 ·have:=(g.low b' u _ hb' hu').2
  omega
 ·have hj2:j<b.size:=by have h9:=hj;rw[gX,hbl]at h9;exact h9
  rw[Nat.zero_add,Lib.bytesWorld_cell w i.elem b j hj2]
  have hj3:j<b.data.toList.length:=by rw[hbl];exact hj2
  simp[HL,Bt,List.getD_eq_getElem?_getD,List.getElem?_eq_getElem hj3]
theorem Kh(ho:o.op=.binOp op t x y yt)(hx:s.ev x=.d (.v (.pointer none)))(hy:s.ev y=.d (.v (.pointer none)))(hu:E.P.underlying t=some (.pointer (E.P.pointee t)))
  (hr:op=.eql/\r=true\/op=.neq/\r=false):cO E o s fr (.d (.v (.bool r))) none:=by
 refine .pure (fun b hb=>by simp[T.refs]at hb) fun S base0 w0 s' ρ a w hs g=>⟨_,?_,.v _⟩
 have h1:=bA hs g (by rw[ho];simp[Op.operands]) hx
 have h2:=bA hs g (by rw[ho];simp[Op.operands]) hy
 have h3:=run_equalIn_pointer_nil (P:=E.P) (w:=w) 9999 t none hu
 rcases hr with⟨rfl,rfl⟩|⟨rfl,rfl⟩
 ·simp[execOp,ho,h1,h2,Sem.run_bind,eqGuard,binOp,Op.equal,Op.maxDepth,h3]
 ·simp[execOp,ho,h1,h2,Sem.run_bind,eqGuard,binOp,Op.equal,Op.maxDepth,h3]
theorem j6{f off:Nat}(ho:o.op=.fieldAddr t x f)(hY:E.Y t=some i)(hf:i.QN[f]?=some off){r q:Nat}(hx:a.eval x=.pointer (some ⟨r,q,none⟩)):
  (execOp a.eval o).run E.P w=.ok (.value (.pointer (some ⟨r,q+off,none⟩))) w:=by
 obtain⟨fs,y,j,h1,h2,h3,_,h4,h5⟩:=(E.hY t i hY).QN f off hf
 have h6:E.P.cellsOf y.type≠0:=by simp[Program.cellsOf,h4,h5]
 simp only[execOp,ho,hx,Instr.fieldAt,Instr.sureAddr,Sem.run_bind,Sem.run_pure,Result.andThen_ok,run_underlying h1 w,h2,fieldPlace,run_sizeOf w h4,h6,if_false]
 rw[mP,h3]
theorem LB{w0:W0 G}{s:St}(g:Good S base w0 s ρ a w)(hk:s.bk b=some (.sl e sz n l)){v:Value}(h:RT (Dt S base ρ) ρ w (.BX b n off) v):
  ∃r c,ρ b=some (.slice (some ⟨r,0,none⟩) n c)/\v=.pointer (some ⟨r,off,none⟩):=by
 obtain⟨u,cs,h1,h2,_⟩:=g.slc hk
 obtain⟨ad,n',c,rfl,h4,h5⟩:=h u h1
 have hn:n=n':=by
  rcases h2.2 with⟨e1,e2⟩|⟨g',cap,cur,e1,_⟩
  ·cases e1;omega
  ·cases e1;rfl
 obtain⟨r,rfl,h6⟩:=h5 hn
 subst hn
 exact⟨r,c,h1,h6⟩
theorem lM{w0:W0 G}{s:St}(g:Good S base w0 s ρ a w)(hk:s.bk b=some (.sl e sz n l)){v:Value}(h:RT (Dt S base ρ) ρ w (.own b n) v):
  ∃cs,ρ b=some v/\w.ownsRow base e sz v n cs/\RL (Dt S base ρ) w l cs:=by
 obtain⟨u,cs,h1,h2,h3⟩:=g.slc hk
 obtain⟨ad,n',c,rfl,h4,h5⟩:=h u h1
 have hn:n=n':=by
  rcases h2.2 with⟨e1,e2⟩|⟨g',cap,cur,e1,_⟩
  ·cases e1;omega
  ·cases e1;rfl
 rw[h5 hn]
 exact⟨cs,h1,h2,h3⟩
theorem uS{f off:Nat}(ho:o.op=.fieldAddr t x f)(hY:E.Y t=some i)(hf:i.QN[f]?=some off){t1 t2:T}(hx:s.ev x=t1)
  (h:∃b base,t1=.ptr b base/\t2=.ptr b (base+off)\/∃rel,t1=.xg b base rel/\t2=.xg b base (rel+off)\/t1=.BX b base rel/\t2=.BX b base (rel+off)/\∃e sz l,s.bk b=some (.sl e sz base l)):cO E o s fr t2 none:=by
 have hm:x∈o.op.operands:=by rw[ho];simp[Op.operands]
 refine .pure ?_ fun S base0 w0 s' ρ a w hs g=>?_
 ·intro b' hb'
  refine⟨x,hm,?_⟩
  rw[hx]
  rcases h with⟨b,base,⟨rfl,rfl⟩|⟨rel,⟨rfl,rfl⟩|⟨rfl,rfl,_⟩⟩⟩<;>simpa[T.refs]using hb'
 ·have h1:=bB hs g hm hx
  have key:∀b,b∈t1.refs->∃u,ρ b=some u:=fun b hb=>g.ref (g.nP x b (by rw[(hs x hm).1,hx];exact hb))
  rcases h with⟨b,base,⟨rfl,rfl⟩|⟨rel,⟨rfl,rfl⟩|⟨rfl,rfl,e,sz,l,hk⟩⟩⟩
  ·obtain⟨u,hu⟩:=key b (by simp[T.refs])
   obtain⟨r,hR,h2⟩:=h1 u hu
   refine⟨_,j6 ho hY hf h2,fun u' hu'=>?_⟩
   rw[hu]at hu';cases hu'
   exact⟨r,hR,rfl⟩
  ·obtain⟨u,hu⟩:=key b (by simp[T.refs])
   obtain⟨r,hR,h2⟩:=h1 u hu
   refine⟨_,j6 ho hY hf h2,fun u' hu'=>?_⟩
   rw[hu]at hu';cases hu'
   exact⟨r,hR,by rw[Nat.add_assoc]⟩
  ·obtain⟨r,c,hu,h2⟩:=LB g (((hs x hm).2 b (by rw[hx];simp[seen,ho,T.refs])).trans hk) h1
   refine⟨_,j6 ho hY hf h2,fun u' hu'=>?_⟩
   rw[hu]at hu';cases hu'
   exact⟨_,base,c,rfl,Nat.le_refl _,fun _=>⟨r,rfl,rfl⟩⟩
theorem O7{f off q:Nat}(ho:o.op=.fieldAddr t x f)(hY:E.Y t=some i)(hf:i.QN[f]?=some off)(hx:s.ev x=.d (.ref l q)):cO E o s fr (.d (.ref l (q+off))) none:=by
 have hm:x∈o.op.operands:=by rw[ho];simp[Op.operands]
 refine .pure (fun b hb=>by simp[T.refs]at hb) fun S base0 w0 s' ρ a w hs g=>?_
 have h1:=bB hs g hm hx
 generalize hv:a.eval x=v at h1
 cases h1 with
 |ref k h4=>exact⟨_,j6 ho hY hf hv,by rw[Nat.add_assoc];exact .ref k h4⟩
theorem Mf{f off q:Nat}(ho:o.op=.fieldAddr t x f)(hY:E.Y t=some i)(hf:i.QN[f]?=some off)(hx:s.ev x=.d (.sref l q)):cO E o s fr (.d (.sref l (q+off))) none:=by
 have hm:x∈o.op.operands:=by rw[ho];simp[Op.operands]
 refine .pure (fun b hb=>by simp[T.refs]at hb) fun S base0 w0 s' ρ a w hs g=>?_
 have h1:=bB hs g hm hx
 generalize hv:a.eval x=v at h1
 cases h1 with
 |sref k h4=>exact⟨_,j6 ho hY hf hv,by rw[Nat.add_assoc];exact .sref k h4⟩
theorem Ki{t:T}(ho:o.op=.nilCheck x)(hx:s.ev x=t)(ht:(∃l q,t=.d (.ref l q))\/∃l q,t=.d (.sref l q)):cO E o s fr t none:=by
 have hm:x∈o.op.operands:=by rw[ho];simp[Op.operands]
 refine .pure (fun b' hb'=>⟨x,hm,by rw[hx];exact hb'⟩) fun S base0 w0 s' ρ a w hs g=>⟨a.eval x,?_,by have:=bB hs g hm hx;exact this⟩
 have hv:∃ad,a.eval x=.pointer (some ad):=by
  have hd:=bB hs g hm hx
  generalize a.eval x=v at hd
  rcases ht with⟨l,q,rfl⟩|⟨l,q,rfl⟩
  ·cases hd;exact⟨_,rfl⟩
  ·cases hd;exact⟨_,rfl⟩
 obtain⟨ad,hv⟩:=hv
 simp only[execOp,ho,hv,Sem.run_pure]
theorem nZ(ho:o.op=.indexAddr t x ix)(hY:E.Y t=some i)(he:i.bY≠0)(hl:i.len≠0)(hi:a.eval ix=.int k z)(h0:0<=z)(h1:z<(i.len:Int)){r q:Nat}(hx:a.eval x=.pointer (some ⟨r,q,none⟩)):
  (execOp a.eval o).run E.P w=.ok (.value (.pointer (some ⟨r,q+z.toNat*i.bY,none⟩))) w:=by
 obtain⟨_,j,h4,h5⟩:=(E.hY t i hY).arr he
 have hu:=(E.hY t i hY).QX hl
 have h6:E.P.cellsOf i.elem=i.bY:=by simp[Program.cellsOf,h4,h5]
 simp only[execOp,ho,hx,hi,Instr.indexAt,asIntOf,Instr.sureAddr,Sem.run_bind,Sem.run_pure,Result.andThen_ok,run_underlying hu w,h0,h1,and_self,if_true,run_sizeOf w h4,mP,h6]
theorem pV{n c:Nat}(ho:o.op=.indexAddr t x ix)(hY:E.Y t=some i)(he:i.bY≠0)(hl:i.sl=true)(hi:a.eval ix=.int k z)(h0:0<=z)(h1:z<(n:Int)){r q:Nat}(hx:a.eval x=.slice (some ⟨r,q,none⟩) n c):
  (execOp a.eval o).run E.P w=.ok (.value (.pointer (some ⟨r,q+z.toNat*i.bY,none⟩))) w:=by
 obtain⟨_,j,h4,h5⟩:=(E.hY t i hY).arr he
 have hu:=(E.hY t i hY).sl hl
 have h6:E.P.cellsOf i.elem=i.bY:=by simp[Program.cellsOf,h4,h5]
 simp only[execOp,ho,hx,hi,Instr.indexAt,asIntOf,Sem.run_bind,Sem.run_pure,Result.andThen_ok,run_underlying hu w,h0,h1,and_self,if_true,run_sizeOf w h4,mP,h6]
theorem Du(ho:o.op=.indexAddr t x ix)(hY:E.Y t=some i)(he:i.bY≠0)(hl:i.len≠0)(hi:s.ev ix=.d (.v (.int k z)))(h0:0<=z)(h1:z<(i.len:Int)){t2:T}
  (h:s.ev x=.ptr b base/\t2=.xg b base (z.toNat*i.bY)\/∃rel,s.ev x=.xg b base rel/\t2=.xg b base (rel+z.toNat*i.bY)):cO E o s fr t2 none:=by
 have hm:x∈o.op.operands:=by rw[ho];simp[Op.operands]
 have hm2:ix∈o.op.operands:=by rw[ho];simp[Op.operands]
 have hr:b∈(s.ev x).refs:=by rcases h with⟨h,_⟩|⟨rel,h,_⟩<;>rw[h]<;>simp[T.refs]
 refine .pure ?_ fun S base0 w0 s' ρ a w hs g=>?_
 ·intro b' hb'
  refine⟨x,hm,?_⟩
  rcases h with⟨h,rfl⟩|⟨rel,h,rfl⟩<;>rw[h]<;>simpa[T.refs]using hb'
 ·obtain⟨u,hu⟩:=g.ref (g.nP x b (by rw[(hs x hm).1];exact hr))
  rcases h with⟨h,rfl⟩|⟨rel,h,rfl⟩
  ·obtain⟨r,hR,h2⟩:=bB hs g hm h u hu
   refine⟨_,nZ ho hY he hl (bA hs g hm2 hi) h0 h1 h2,fun u' hu'=>?_⟩
   rw[hu]at hu';cases hu'
   exact⟨r,hR,rfl⟩
  ·obtain⟨r,hR,h2⟩:=bB hs g hm h u hu
   refine⟨_,nZ ho hY he hl (bA hs g hm2 hi) h0 h1 h2,fun u' hu'=>?_⟩
   rw[hu]at hu';cases hu'
   exact⟨r,hR,by rw[Nat.add_assoc]⟩
theorem O9(ho:o.op=.indexAddr t x ix)(hY:E.Y t=some i)(he:i.bY≠0)(hl:i.sl=true)(hi:s.ev ix=.d (.v (.int k z)))(h0:0<=z)(h1:z<(n:Int))
  (hx:s.ev x=.own b n)(hk:s.bk b=some (.sl e sz n l)):cO E o s fr (.BX b n (z.toNat*i.bY)) none:=by
 have hm:x∈o.op.operands:=by rw[ho];simp[Op.operands]
 have hm2:ix∈o.op.operands:=by rw[ho];simp[Op.operands]
 refine .pure (fun b' hb'=>⟨x,hm,by rw[hx];simpa[T.refs]using hb'⟩) fun S base0 w0 s' ρ a w hs g=>?_
 obtain⟨cs,h2,h3,_⟩:=lM g (((hs x hm).2 b (by rw[hx];simp[seen,ho,T.refs])).trans hk) (bB hs g hm hx)
 rcases h3.2 with⟨e1,e2⟩|⟨g',cap,cur,e1,_⟩
 ·omega
 ·refine⟨_,pV ho hY he hl (bA hs g hm2 hi) h0 h1 e1,fun u hu=>?_⟩
  rw[h2]at hu;cases hu
  exact⟨_,n,cap,e1,Nat.le_refl _,fun _=>⟨g',rfl,by rw[Nat.zero_add]⟩⟩
theorem Pe(ho:o.op=.indexAddr t x ix)(hY:E.Y t=some i)(he:i.bY≠0)(hl:i.sl=true)(hi:s.ev ix=.d (.v (.int k z)))(h0:0<=z)(h1:z<(n:Int))
  (hx:s.ev x=.win b base n):cO E o s fr (.xg b base (z.toNat*i.bY)) none:=by
 have hm:x∈o.op.operands:=by rw[ho];simp[Op.operands]
 have hm2:ix∈o.op.operands:=by rw[ho];simp[Op.operands]
 refine .pure (fun b' hb'=>⟨x,hm,by rw[hx];simpa[T.refs]using hb'⟩) fun S base0 w0 s' ρ a w hs g=>?_
 have hd:=bB hs g hm hx
 obtain⟨u,hu⟩:=g.ref (g.nP x b (by rw[(hs x hm).1,hx];simp[T.refs]))
 obtain⟨r,c,h2,h3,h4,h5⟩:=hd u hu
 refine⟨_,pV ho hY he hl (bA hs g hm2 hi) h0 h1 h3,fun u' hu'=>?_⟩
 rw[hu]at hu';cases hu'
 exact⟨r,h2,rfl⟩
theorem Pd(ho:o.op=.indexAddr t x ix)(hY:E.Y t=some i)(he:i.bY≠0)(hl:i.sl=true)(hi:s.ev ix=.d (.v (.int k z)))(h0:0<=z)(h1:z<(n:Int))
  (hx:s.ev x=.d (.row n l))(hn:n*i.bY=dM l):cO E o s fr (.d (.ref l (z.toNat*i.bY))) none:=by
 have hm:x∈o.op.operands:=by rw[ho];simp[Op.operands]
 have hm2:ix∈o.op.operands:=by rw[ho];simp[Op.operands]
 refine .pure (fun b' hb'=>by simp[T.refs]at hb') fun S base0 w0 s' ρ a w hs g=>?_
 have h2:=bB hs g hm hx
 generalize hv:a.eval x=v at h2
 cases h2 with
 |row k h3 h4 h5 h6=>
  rename_i c cs ad
  rcases h6 with h6|⟨b,q,rfl,h7,h8,h9⟩
  ·exfalso
   have:=k.len
   rw[h6]at this
   have h10:0<n:=by omega
   have:0<n*i.bY:=Nat.mul_pos h10 (Nat.pos_of_ne_zero he)
   simp at*;omega
  ·exact⟨_,pV ho hY he hl (bA hs g hm2 hi) h0 h1 hv,.ref k (.inr ⟨b,q,rfl,h7,h8,h9⟩)⟩
theorem Mh{l pre post:List Seg}{sg:Seg}{off rel:Nat}(ho:o.op=.indexAddr t x ix)(hY:E.Y t=some i)(he:i.bY≠0)(hl:i.len≠0)(hi:s.ev ix=.d (.v (.int k z)))(h0:0<=z)(h1:z<(i.len:Int))
  (hx:s.ev x=.d (.sref l off))(hc:loc l off=some (pre,sg,post,rel)):cO E o s fr (.d (.ref [sg] (rel+z.toNat*i.bY))) none:=by
 have hm:x∈o.op.operands:=by rw[ho];simp[Op.operands]
 have hm2:ix∈o.op.operands:=by rw[ho];simp[Op.operands]
 refine .pure (fun b' hb'=>by simp[T.refs]at hb') fun S base0 w0 s' ρ a w hs g=>?_
 have h2:=bB hs g hm hx
 generalize hv:a.eval x=v at h2
 cases h2 with
 |sref k h4=>
  rename_i b q cs
  obtain⟨c,d,e,rfl,k1,k2,k3,k4,k5,k6⟩:=k.found hc
  refine⟨_,nZ ho hY he hl (bA hs g hm2 hi) h0 h1 hv,?_⟩
  have hq:q+off+z.toNat*i.bY=(q+c.length)+(rel+z.toNat*i.bY):=by omega
  rw[hq]
  refine .ref k2 ?_
  rcases h4 with h4|⟨b',q',h5,h6,h7,h8⟩
  ·left
   simp at h4
   exact h4.2.1
  ·cases h5
   refine .inr ⟨b,q+c.length,rfl,h6,h7,fun j hj=>?_⟩
   have hj2:c.length+j<(c++(d++e)).length:=by simp;omega
   have:=h8 (c.length+j) hj2
   rw[Nat.add_assoc,this]
   simp[List.getElem_append_right,List.getElem_append_left hj]
theorem Mg{f:Nat->List Seg}(ho:o.op=.indexAddr t x ix)(hY:E.Y t=some i)(he:i.bY≠0)(hl:i.sl=true)(hi:s.ev ix=.d (.v (.int k z)))(h0:0<=z)(h1:z<(n:Int))
  (hx:s.ev x=.d (.recs n i.bY f)):cO E o s fr (.d (.sref (f z.toNat) 0)) none:=by
 have hm:x∈o.op.operands:=by rw[ho];simp[Op.operands]
 have hm2:ix∈o.op.operands:=by rw[ho];simp[Op.operands]
 refine .pure (fun b' hb'=>by simp[T.refs]at hb') fun S base0 w0 s' ρ a w hs g=>?_
 have h2:=bB hs g hm hx
 generalize hv:a.eval x=v at h2
 cases h2 with
 |recs k h3 h4 h5 h6=>
  rename_i c cs ad
  have hz:z.toNat<n:=by omega
  rcases h6 with h6|⟨b,q,rfl,h7⟩
  ·omega
  ·exact⟨_,pV ho hY he hl (bA hs g hm2 hi) h0 h1 hv,.sref (off:=0) (k _ hz) (h7 _ hz)⟩
theorem yL(ho:o.op=.indexAddr t x ix)(hY:E.Y t=some i)(he:i.bY≠0)(hl:i.len≠0)(hi:a.eval ix=.int k z)(h0:0<=z)(h1:z<(i.len:Int)){r q:Nat}(h2:a.eval x=.pointer (some ⟨r,q,none⟩)):
  (execOp a.eval o).run E.P w=.ok (.value (.pointer (some ⟨r,q+z.toNat*i.bY,none⟩))) w:=nZ ho hY he hl hi h0 h1 h2
theorem O8(ho:o.op=.indexAddr t x ix)(hY:E.Y t=some i)(he:i.bY≠0)(hl:i.len≠0)(hi:s.ev ix=.d (.v (.int k z)))(h0:0<=z)(h1:z<(i.len:Int))
  (hx:s.ev x=.BX b n off)(hk:s.bk b=some (.sl e sz n l)):cO E o s fr (.BX b n (off+z.toNat*i.bY)) none:=by
 have hm:x∈o.op.operands:=by rw[ho];simp[Op.operands]
 have hm2:ix∈o.op.operands:=by rw[ho];simp[Op.operands]
 refine .pure (fun b' hb'=>⟨x,hm,by rw[hx];simpa[T.refs]using hb'⟩) fun S base0 w0 s' ρ a w hs g=>?_
 obtain⟨r,c,hu,h2⟩:=LB g (((hs x hm).2 b (by rw[hx];simp[seen,ho,T.refs])).trans hk) (bB hs g hm hx)
 refine⟨_,yL ho hY he hl (bA hs g hm2 hi) h0 h1 h2,fun u' hu'=>?_⟩
 rw[hu]at hu';cases hu'
 exact⟨_,n,c,rfl,Nat.le_refl _,fun _=>⟨r,rfl,rfl⟩⟩
theorem Dv{t:T}(ho:o.op=.nilCheck x)(hx:(∃b base,s.ev x=.ptr b base/\t=.ptr b base)\/∃b base rel,s.ev x=.xg b base rel/\t=.xg b base rel):cO E o s fr t none:=by
 have hm:x∈o.op.operands:=by rw[ho];simp[Op.operands]
 have ht:s.ev x=t:=by rcases hx with⟨_,_,h,rfl⟩|⟨_,_,_,h,rfl⟩<;>exact h
 refine .pure (fun b' hb'=>⟨x,hm,by rw[ht];exact hb'⟩) fun S base0 w0 s' ρ a w hs g=>⟨a.eval x,?_,by have:=bB hs g hm ht;exact this⟩
 have hv:∃ad,a.eval x=.pointer (some ad):=by
  have hd:=bB hs g hm ht
  have hr:=g.nP x
  rw[(hs x hm).1,ht]at hr
  rcases hx with⟨b,base,_,rfl⟩|⟨b,base,rel,_,rfl⟩
  ·obtain⟨u,hu⟩:=g.ref (hr b (by simp[T.refs]))
   obtain⟨r,_,h2⟩:=hd u hu
   exact⟨_,h2⟩
  ·obtain⟨u,hu⟩:=g.ref (hr b (by simp[T.refs]))
   obtain⟨r,_,h2⟩:=hd u hu
   exact⟨_,h2⟩
 obtain⟨ad,hv⟩:=hv
 simp only[execOp,ho,hv,Sem.run_pure]
theorem Pb(ho:o.op=.indexAddr t x ix)(hY:E.Y t=some i)(he:i.bY≠0)(hl:i.len≠0)(hi:s.ev ix=.d (.v (.int k z)))(h0:0<=z)(h1:z<(i.len:Int))
  (hx:evG E.G s x=.d (.ref l off)):cO E o s fr (.d (.ref l (off+z.toNat*i.bY))) none:=by
 have hm:x∈o.op.operands:=by rw[ho];simp[Op.operands]
 have hm2:ix∈o.op.operands:=by rw[ho];simp[Op.operands]
 refine .pure (fun b' hb'=>by simp[T.refs]at hb') fun S base0 w0 s' ρ a w hs g=>?_
 have h2:=bk4 hs g hm hx
 generalize hv:a.eval x=v at h2
 cases h2 with
 |ref k h4=>
  refine⟨_,yL ho hY he hl (bA hs g hm2 hi) h0 h1 hv,?_⟩
  rw[Nat.add_assoc]
  exact .ref k h4
theorem PZ{j:TI}(hY:E.Y t=some j){D:Nat->Prop}{cs:List Value}{x:A}(hn:j.agg=true->j.sz=n)
  (hx:(j.agg=true->off+n<=cs.length/\RA D w x (.agg ((cs.drop off).take n).toArray))/\(j.agg=false->∃v,cs[off]?=some v/\RA D w x v/\v.oneCell'=true)):
  ∃v,(part t cs.toArray off).run E.P w=.ok v w/\RA D w x v:=by
 obtain⟨f,z,hf,hs2,_⟩:=(E.hY t j hY).info
 obtain⟨d,hd⟩:=(E.hY t j hY).und
 have hag:(isAgg t).run E.P w=.ok j.agg w:=by
  have h1:=(E.hY t j hY).agg
  unfold lu at h1
  rw[hd]at h1
  rw[<-h1]
  unfold isAgg
  rw[Sem.run_bind,run_underlying hd w]
  cases d<;>simp_all
 cases ha:j.agg with
 |true=>
  obtain⟨h1,h2⟩:=hx.1 ha
  refine⟨_,?_,h2⟩
  simp only[part,Sem.run_bind,hag,ha,Result.andThen_ok,if_true,run_sizeOf w hf,Sem.run_pure]
  congr 2
  rw[show E.P.cellsOf t=n by simp[Program.cellsOf,hf,hs2,hn ha]]
  apply Array.ext_getElem?
  intro m
  simp only[Array.getElem?_extract,List.getElem?_toArray,List.getElem?_take,List.getElem?_drop,List.size_toArray]
  by_cases hm:m<n
  ·rw[if_pos (by omega),if_pos hm]
  ·rw[if_neg (by omega),if_neg hm]
 |false=>
  obtain⟨v,h1,h2,h3⟩:=hx.2 ha
  refine⟨v,?_,h2⟩
  simp only[part,Sem.run_bind,hag,ha,Result.andThen_ok,Bool.false_eq_true,if_false]
  simp[h1]
theorem aw6{i j:TI}{d:A}(ho:o.op=.index t x ix)(hY:E.Y t=some i)(he:i.bY≠0)(hl:i.len≠0)(hx:s.ev x=.d (.agg l))(hi:s.ev ix=.d (.v (.int k z)))(hj:E.Y i.elem=some j)(h0:0<=z)(h1:z<(i.len:Int))
  (hd:∀{S:Nat->Prop} {w:World} {cs:List Value},RL S w l cs->(j.agg=true->0+z.toNat*i.bY+i.bY<=cs.length/\RA S w d (.agg ((cs.drop (0+z.toNat*i.bY)).take i.bY).toArray))/\(j.agg=false->∃v,cs[0+z.toNat*i.bY]?=some v/\RA S w d v/\v.oneCell'=true)):
  cO E o s fr (.d d) none:=by
 have hm:x∈o.op.operands:=by rw[ho];simp[Op.operands]
 have hm2:ix∈o.op.operands:=by rw[ho];simp[Op.operands]
 refine .pure (fun b' hb'=>by simp[T.refs]at hb') fun S base0 w0 s' ρ a w hs g=>?_
 have h2:=bB hs g hm hx
 generalize hv:a.eval x=v at h2
 obtain⟨_,f,h4,h5⟩:=(E.hY t i hY).arr he
 have hu:=(E.hY t i hY).QX hl
 have h6:E.P.cellsOf i.elem=i.bY:=by simp[Program.cellsOf,h4,h5]
 cases h2 with
 |agg k=>
  obtain⟨v,h7,h8⟩:=PZ hj (n:=i.bY) (fun _=>by obtain⟨f',z',hf',hs',_⟩:=(E.hY _ j hj).info;rw[h4]at hf';cases hf';omega) (hd k)
  refine⟨v,?_,h8⟩
  rw[Nat.zero_add]at h7
  simp only[execOp,ho,hv,bA hs g hm2 hi,Instr.index,asIntOf,Sem.run_bind,Sem.run_pure,Result.andThen_ok,run_underlying hu w,h0,h1,and_self,if_true,run_sizeOf w h4,h6,h7]
theorem aw5{t ft:TypeId}{f off:Nat}{i j:TI}{d:A}(ho:o.op=.field t x f)(hY:E.Y t=some i)(hf:i.QN[f]?=some off)(hft:i.fty[f]?=some ft)(hx:s.ev x=.d (.agg l))(hj:E.Y ft=some j)
  (hd:∀{S:Nat->Prop} {w:World} {cs:List Value},RL S w l cs->(j.agg=true->off+j.sz<=cs.length/\RA S w d (.agg ((cs.drop off).take j.sz).toArray))/\(j.agg=false->∃v,cs[off]?=some v/\RA S w d v/\v.oneCell'=true)):
  cO E o s fr (.d d) none:=by
 have hm:x∈o.op.operands:=by rw[ho];simp[Op.operands]
 refine .pure (fun b' hb'=>by simp[T.refs]at hb') fun S base0 w0 s' ρ a w hs g=>?_
 have h2:=bB hs g hm hx
 generalize hv:a.eval x=v at h2
 obtain⟨fs,y,f',h3,h4,h5,h6,h7,h8⟩:=(E.hY t i hY).QN f off hf
 rw[hft]at h6;cases h6
 cases h2 with
 |agg k=>
  obtain⟨v,h9,h10⟩:=PZ hj (n:=j.sz) (fun _=>rfl) (hd k)
  refine⟨v,?_,h10⟩
  rw[<-h5]at h9
  simp only[execOp,ho,hv,Instr.field,asAgg,Sem.run_bind,Sem.run_pure,Result.andThen_ok,run_underlying h3 w,h4,h9]
theorem aV3{src dst:TypeId}{i si:TI}{k q:IntKind}(ho:o.op=.convert src dst x)(hs':E.Y src=some si)(hY:E.Y dst=some i)(hx:s.ev x=.d (.v (.int k z)))(hk:i.knd=some q):cO E o s fr (.d (.v (.int q (q.wrap z)))) none:=by
 refine .pure (fun b hb=>by simp[T.refs]at hb) fun S base w0 s' ρ a w hs g=>⟨_,?_,.v _⟩
 have h1:=bA hs g (by rw[ho];simp[Op.operands]) hx
 obtain⟨d,hd⟩:=(E.hY src si hs').und
 have hu:=(E.hY dst i hY).knd q hk
 simp only[execOp,ho,h1,convert,Sem.run_bind,run_underlying hd w,run_underlying hu w,Result.andThen_ok,Conv.intToInt,Sem.run_pure]
theorem bD3(ho:o.op=.slice t x none none none)(hY:E.Y t=some i)(hl:i.len≠0)(he:i.bY=1)(hm:i.len<=1000000)(hx:s.ev x=.ptr b base):cO E o s fr (.win b base i.len) none:=by
 have hm1:x∈o.op.operands:=by rw[ho];simp[Op.operands]
 refine .pure (fun b' hb'=>⟨x,hm1,by rw[hx];simpa[T.refs]using hb'⟩) fun S base0 w0 s' ρ a w hs g=>?_
 obtain⟨u,hu⟩:=g.ref (g.nP x b (by rw[(hs x hm1).1,hx];simp[T.refs]))
 obtain⟨r,hR,h2⟩:=bB hs g hm1 hx u hu
 obtain⟨_,f,h4,h5⟩:=(E.hY t i hY).arr (by omega)
 have hua:=(E.hY t i hY).QX hl
 refine⟨.slice (some ⟨r,base,none⟩) i.len i.len,?_,fun u' hu'=>?_⟩
 ·simp only[execOp,ho,h2,Instr.sliceAt,Instr.sureAddr,Instr.sliceBounds,Option.map_none,Sem.run_bind,Sem.run_pure,Result.andThen_ok,run_underlying hua w,run_sizeOf w h4,Nat.zero_mul,Nat.sub_zero,mP,Nat.add_zero]
  simp
 ·rw[hu]at hu';cases hu'
  exact⟨r,i.len,hR,rfl,Nat.le_refl _,by unfold maxLen;omega⟩
theorem aV6(ho:o.op=.slice t x none (some y) none)(hY:E.Y t=some i)(hl:i.len≠0)(he:i.bY=1)(hm:i.len<=1000000)(hx:s.ev x=.ptr b base)(hy:s.ev y=.d (.v (.int .i64 z)))(h0:0<=z)(hz:z.toNat<=i.len):cO E o s fr (.win b base z.toNat) none:=by
 have hm1:x∈o.op.operands:=by rw[ho];simp[Op.operands]
 have hm2:y∈o.op.operands:=by rw[ho];simp[Op.operands]
 refine .pure (fun b' hb'=>⟨x,hm1,by rw[hx];simpa[T.refs]using hb'⟩) fun S base0 w0 s' ρ a w hs g=>?_
 obtain⟨u,hu⟩:=g.ref (g.nP x b (by rw[(hs x hm1).1,hx];simp[T.refs]))
 obtain⟨r,hR,h2⟩:=bB hs g hm1 hx u hu
 have h3:=bA hs g hm2 hy
 obtain⟨_,f,h4,h5⟩:=(E.hY t i hY).arr (by omega)
 have hua:=(E.hY t i hY).QX hl
 refine⟨.slice (some ⟨r,base,none⟩) z.toNat i.len,?_,fun u' hu'=>?_⟩
 ·simp only[execOp,ho,h2,h3,Instr.sliceAt,Instr.sureAddr,Instr.sliceBounds,Option.map_none,Option.map_some,Sem.run_bind,Sem.run_pure,Result.andThen_ok,run_underlying hua w,run_sliceBound (P:=E.P) w .i64 z i.len _ h0 (by omega),run_sizeOf w h4,Nat.zero_mul,Nat.sub_zero,mP,Nat.add_zero]
  simp
 ·rw[hu]at hu';cases hu'
  exact⟨r,i.len,hR,rfl,hz,by unfold maxLen;omega⟩
theorem aw9(ho:o.op=.sliceToArrayPointer t x)(hY:E.Y t=some i)(hl:i.len≠0)(hn:i.len<=n)(hs0:dM l≠0)(hx:s.ev x=.d (.row n l)):cO E o s fr (.d (.sref l 0)) none:=by
 have hm1:x∈o.op.operands:=by rw[ho];simp[Op.operands]
 refine .pure (fun b hb=>by simp[T.refs]at hb) fun S base0 w0 s' ρ a w hs g=>?_
 have h1:=bB hs g hm1 hx
 have hua:=(E.hY t i hY).QX hl
 generalize hv:a.eval x=v at h1
 cases h1 with
 |row k h4 h5 h6 h7=>
  rename_i c cs ad
  have hlen:=k.len
  rcases h7 with h7|⟨q,o',rfl,e1,e2,e3⟩
  ·rw[h7]at hlen;exact absurd hlen.symm hs0
  ·refine⟨.pointer (some ⟨q,o',none⟩),?_,.sref (o:=o') k (.inr ⟨q,o',rfl,e1,e2,e3⟩)⟩
   simp[execOp,ho,hv,Instr.arrayAt,Sem.run_bind,run_underlying hua w,Nat.not_lt.2 hn]
theorem Cz{c:Call}(ho:o.op=.call c)(hc:c.callee=.builtin .len)(ha:c.args.toList=[x])(ht:c.argTypes.toList=[t])(hY:E.Y t=some i)(hs1:i.sl=true)
  (hx:((∃l,s.ev x=.d (.row n l))\/∃z f,s.ev x=.d (.recs n z f))\/(∃b e sz l,s.ev x=.own b n/\s.bk b=some (.sl e sz n l))\/(∃b base,s.ev x=.win b base n)\/(∃ad c,s.ev x=.d (.v (.slice ad n c)))):cO E o s fr (.d (.v (.int .i64 n))) none:=by
 have hca:c.args=#[x]:=by cases hq:c.args;simp_all
 have hct:c.argTypes=#[t]:=by cases hq:c.argTypes;simp_all
 have hm:x∈o.op.operands:=by rw[ho];simp[Op.operands,Call.operands,hc,hca]
 refine .pure (fun b hb=>by simp[T.refs]at hb) fun S base w0 s' ρ a w hs g=>⟨_,?_,.v _⟩
 have hu:=(E.hY t i hY).sl hs1
 obtain⟨ad,cp,hv⟩:∃ad cp,a.eval x=.slice ad n cp:=by
  rcases hx with(⟨l,hx⟩|⟨z9,f9,hx⟩)|⟨b,e,sz,l,hx,hk⟩|⟨b,base,hx⟩|⟨_,_,hx⟩
  ·have h2:=bB hs g hm hx
   generalize a.eval x=v at h2
   cases h2;exact⟨_,_,rfl⟩
  ·have h2:=bB hs g hm hx
   generalize a.eval x=v at h2
   cases h2;exact⟨_,_,rfl⟩
  ·obtain⟨cs,h2,h3,_⟩:=lM g (((hs x hm).2 b (by rw[hx];simp[seen,ho,T.refs])).trans hk) (bB hs g hm hx)
   rcases h3.2 with⟨e1,rfl⟩|⟨g',cap,cur,e1,_⟩
   ·exact⟨_,_,e1⟩
   ·exact⟨_,_,e1⟩
  ·obtain⟨u,hu'⟩:=g.ref (g.nP x b (by rw[(hs x hm).1,hx];simp[T.refs]))
   obtain⟨r,c',_,h2,_⟩:=bB hs g hm hx u hu'
   exact⟨_,_,h2⟩
  ·exact⟨_,_,bA hs g hm hx⟩
 simp[execOp,ho,resolve,hc,hca,hct,invoke,builtin,Builtin.len_,hv,Sem.run_bind,run_underlying hu w,goInt]
theorem KH{K:List Seg->Prop}(h:ba2 l off n K):∃m,K m/\off+n<=dM l/\∀{S:Nat->Prop} {w:World} {cs:List Value},RL S w l cs->RL S w m ((cs.drop off).take n):=by
 unfold ba2 at h
 split at h
 ·exact⟨_,h.2,by simp[dM];omega,fun hl=>hl.sub off n h.1⟩
 ·split at h
  ·next m hm=>exact⟨m,h.2,h.1,fun hl=>(hl.cut hm).1⟩
  ·exact h.elim
theorem BP{x:Option Operand}{d:Nat}{K:Nat->Prop}(h:ab5 s x d K):∃m,K m/\(x=none/\m=d\/∃y z,x=some y/\s.ev y=.d (.v (.int .i64 z))/\0<=z/\m=z.toNat):=by
 unfold ab5 at h
 split at h
 ·exact⟨_,h,.inl ⟨rfl,rfl⟩⟩
 ·next y=>
  split at h
  ·next z hz=>exact⟨_,h.2,.inr ⟨y,z,rfl,hz,h.1,rfl⟩⟩
  ·exact h.elim
theorem Kr{n a b e:Nat}{l m:List Seg}{ad:Option Addr}{c:Nat}(h:RA S w (.row n l) (.slice ad n c))(h1:a<=b)(h2:b<=n)(he:e≠0)(h3:a*e+(b-a)*e<=dM l)
  (hm:∀{cs:List Value},RL S w l cs->RL S w m ((cs.drop (a*e)).take ((b-a)*e))):RA S w (.row (b-a) m) (sliced ad a b c e):=by
 cases h with
 |row k h4 h5 h6 h7=>
  rename_i cs
  have hlen:=k.len
  unfold sliced
  refine .row (hm k) (by omega) (by omega) (fun hn=>?_) ?_
  ·by_cases hc:c=a
   ·omega
   ·rw[if_neg hc]at hn
    have:=h6 (by simpa using hn)
    omega
  ·by_cases hab:a=b
   ·subst hab;left;rw[Nat.sub_self,Nat.zero_mul,List.take_zero]
   ·rcases h7 with h7|⟨q,o,rfl,e1,e2,e3⟩
    ·left
     rw[h7];simp
    ·right
     rw[if_neg (by omega),Option.map_some,mP]
     refine⟨q,o+a*e,rfl,e1,e2,fun i hi=>?_⟩
     simp only[List.length_take,List.length_drop]at hi
     rw[Nat.add_assoc,e3 (a*e+i) (by omega)]
     simp
theorem bD2{lo hi:Option Operand}{n a b:Nat}{l m:List Seg}(ho:o.op=.slice t x lo hi none)(hY:E.Y t=some i)(hs1:i.sl=true)(he:i.bY≠0)(hx:s.ev x=.d (.row n l))
  (ha:lo=none/\a=0\/∃y z,lo=some y/\s.ev y=.d (.v (.int .i64 z))/\0<=z/\a=z.toNat)(hb:hi=none/\b=n\/∃y z,hi=some y/\s.ev y=.d (.v (.int .i64 z))/\0<=z/\b=z.toNat)(h1:a<=b)(h2:b<=n)
  (h3:a*i.bY+(b-a)*i.bY<=dM l)(hm:∀{S:Nat->Prop} {w:World} {cs:List Value},RL S w l cs->RL S w m ((cs.drop (a*i.bY)).take ((b-a)*i.bY))):cO E o s fr (.d (.row (b-a) m)) none:=by
 have hm1:x∈o.op.operands:=by rw[ho];simp[Op.operands]
 refine .pure (fun b' hb'=>by simp[T.refs]at hb') fun S base0 w0 s' ρ ac w hs g=>?_
 have hr:=bB hs g hm1 hx
 have hu:=(E.hY t i hY).sl hs1
 have hel:E.P.elem t=i.elem:=by unfold Program.elem;rw[hu]
 have hu':E.P.underlying t=some (.slice (E.P.elem t)):=by rw[hel];exact hu
 obtain⟨_,j,hj,hsz⟩:=(E.hY t i hY).arr he
 rw[<-hel]at hj
 have hcell:E.P.cellsOf (E.P.elem t)=i.bY:=by simp[Program.cellsOf,hj,hsz]
 generalize hv:ac.eval x=v at hr
 obtain⟨ad,c,rfl⟩:∃ad c,v=.slice ad n c:=by cases hr;exact⟨_,_,rfl⟩
 have hnc:n<=c:=by cases hr;assumption
 have bF8:(execOp ac.eval o).run E.P w=.ok (.value (sliced ad a b c i.bY)) w:=by
  have ek:∀y,some y∈[lo,hi]->y∈o.op.operands:=by
   intro y hy
   rw[ho]
   simp only[List.mem_cons,List.not_mem_nil,or_false]at hy
   rcases hy with rfl|rfl
   ·simp[Op.operands]
   ·simp[Op.operands]
  rcases ha with⟨rfl,rfl⟩|⟨y,z,rfl,hz,hz0,rfl⟩
  ·rcases hb with⟨rfl,rfl⟩|⟨y2,z2,rfl,hz2,aR5,rfl⟩
   ·simp[execOp,ho,hv,run_sliceAt_slice _ _ _ _ _ _ hu',run_slice_all w t ad b c hu',run_sizeOf w hj,hcell,hsz]
   ·have e2:=bA hs g (ek y2 (by simp)) hz2
    simp[execOp,ho,hv,e2,run_sliceAt_slice _ _ _ _ _ _ hu',run_slice_h w t ad n c hu' .i64 z2 aR5 (by omega),run_sizeOf w hj,hcell,hsz]
  ·have e1:=bA hs g (ek y (by simp)) hz
   rcases hb with⟨rfl,rfl⟩|⟨y2,z2,rfl,hz2,aR5,rfl⟩
   ·simp[execOp,ho,hv,e1,run_sliceAt_slice _ _ _ _ _ _ hu',run_slice_l w t ad b c hu' .i64 z hz0 (by omega),run_sizeOf w hj,hcell,hsz]
   ·have e2:=bA hs g (ek y2 (by simp)) hz2
    simp[execOp,ho,hv,e1,e2,run_sliceAt_slice _ _ _ _ _ _ hu',run_slice_lh w t ad n c hu' .i64 .i64 z z2 hz0 (by omega) (by omega),run_sizeOf w hj,hcell,hsz]
 exact⟨_,bF8,Kr hr h1 h2 he h3 hm⟩
theorem bD0{hi:Option Operand}{b c n sz:Nat}(ho:o.op=.slice t x none hi none)(hY:E.Y t=some i)(hs1:i.sl=true)(he:i.bY≠0)(hx:s.ev x=.own b n)(hk:s.bk b=some (.sl e sz n l))
  (hb:hi=none/\c=n\/∃y z,hi=some y/\s.ev y=.d (.v (.int .i64 z))/\0<=z/\c=z.toNat)(h1:c<=n):cO E o s fr (.pre b c n) none:=by
 have hm1:x∈o.op.operands:=by rw[ho];simp[Op.operands]
 refine .pure (fun b' hb'=>⟨x,hm1,by rw[hx];simpa[T.refs]using hb'⟩) fun S base0 w0 s' ρ ac w hs g=>?_
 obtain⟨cs,k1,k2,k3⟩:=lM g (((hs x hm1).2 b (by rw[hx];simp[seen,ho,T.refs])).trans hk) (bB hs g hm1 hx)
 have hu:=(E.hY t i hY).sl hs1
 have hel:E.P.elem t=i.elem:=by unfold Program.elem;rw[hu]
 have hu':E.P.underlying t=some (.slice (E.P.elem t)):=by rw[hel];exact hu
 obtain⟨_,j,hj,hsz⟩:=(E.hY t i hY).arr he
 rw[<-hel]at hj
 have hcell:E.P.cellsOf (E.P.elem t)=i.bY:=by simp[Program.cellsOf,hj,hsz]
 generalize hv:ac.eval x=v at k1 k2
 obtain⟨ad,cp,rfl,hnc⟩:∃ad cp,v=.slice ad n cp/\n<=cp:=by
  rcases k2.2 with⟨e1,e2⟩|⟨r,cap,cur,e1,e3,e4,e5,e6,e7,e8⟩
  ·exact⟨_,_,by rw[e1,e2],by omega⟩
  ·exact⟨_,_,e1,e5⟩
 have bF8:(execOp ac.eval o).run E.P w=.ok (.value (sliced ad 0 c cp i.bY)) w:=by
  rcases hb with⟨rfl,rfl⟩|⟨y2,z2,rfl,hz2,aR5,rfl⟩
  ·simp[execOp,ho,hv,run_sliceAt_slice _ _ _ _ _ _ hu',run_slice_all w t ad c cp hu',run_sizeOf w hj,hcell,hsz]
  ·have e2:=bA hs g (by rw[ho];simp[Op.operands]) hz2
   simp[execOp,ho,hv,e2,run_sliceAt_slice _ _ _ _ _ _ hu',run_slice_h w t ad n cp hu' .i64 z2 aR5 (by omega),run_sizeOf w hj,hcell,hsz]
 refine⟨_,bF8,fun u hu2=>?_⟩
 rw[k1]at hu2
 cases hu2
 exact⟨ad,n,cp,rfl,Nat.le_refl _,fun _=>by unfold sliced;simp⟩
end
end
section
theorem DT(off:Nat):∀(vs:List Value) (j:Nat) (cs:Array Value),off+j+vs.length<=cs.size->
  ((vs.zipIdx j).foldl (fun cs (x:Value×Nat)=>cs.setIfInBounds (off+x.2) x.1) cs).toList=cs.toList.take (off+j)++(vs++cs.toList.drop (off+j+vs.length))
 |[],j,cs,h=>by simp
 |v::vs,j,cs,h=>by
  simp only[List.length_cons]at h
  rw[List.zipIdx_cons,List.foldl_cons,DT off vs (j+1) _ (by simp;omega)]
  simp only[Array.toList_setIfInBounds,List.length_cons]
  have h1:off+j<cs.toList.length:=by simp;omega
  rw[List.set_eq_take_append_cons_drop,if_pos h1]
  have e1:(cs.toList.take (off+j)).length=off+j:=by simp;omega
  rw[List.take_append,List.take_of_length_le (by omega),e1,show off+(j+1) - (off+j)=1 by omega,List.take_succ_cons,List.take_zero,
   List.drop_append,List.drop_of_length_le (by omega),e1,List.nil_append,show off+(j+1)+vs.length- (off+j)=vs.length+1 by omega,List.drop_succ_cons,List.drop_drop]
  simp only[List.append_assoc,List.cons_append,List.nil_append]
  have e2:∀a b:Nat,a=b->cs.toList.drop a=cs.toList.drop b:=fun a b h=>by rw[h]
  rw[e2 _ (off+j+(vs.length+1)) (by omega)]
section
variable {E : ak} {o : Oper} {s : St} {fr : Nat}
theorem lV{off:Nat->Option (Nat×Nat)}{s:St}:∀{parts:List (Nat×Operand)} {l:List Seg} {K:List Seg->Prop},Dm off s parts l K->∃l',K l'/\
  ∀{D:Nat->Prop} {w:World} {ρ:Nat->Option Value} (ev:Operand->Value) (cs:Array Value),(∀p∈parts,RT D ρ w (s.ev p.2) (ev p.2))->RL D w l cs.toList->
   ∃cs',Instr.fill off cs (parts.map fun p=>(p.1,ev p.2))=some cs'/\RL D w l' cs'.toList
 |[],l,K,h=>⟨l,h,fun ev cs _ hl=>⟨cs,rfl,hl⟩⟩
 |(i,x)::r,l,K,h=>by
  unfold Dm at h
  split at h
  ·next q n d ho hx=>
   obtain⟨hn0,h⟩:=h
   obtain⟨l1,h1,h2⟩:=BG h
   obtain⟨l2,hK,h3⟩:=lV h1
   refine⟨l2,hK,fun {D w ρ} ev cs hp hl=>?_⟩
   have hv:RA D w d (ev x):=by have:=hp (i,x) (by simp);rw[hx]at this;exact this
   obtain⟨k1,k2,k3,k4⟩:=h2 hl hv
   have hq:q+(ev x).cells.size<=cs.size:=by
    rcases k3 with k3|k3
    ·simp at k3;omega
    ·exact absurd k3 hn0
   have hf:((ev x).cells.zipIdx.foldl (fun cs (c,j)=>cs.setIfInBounds (q+j) c) cs).toList=cs.toList.take q++((ev x).cells.toList++cs.toList.drop (q+n)):=by
    rw[<-Array.foldl_toList,Array.toList_zipIdx]
    have:=DT q (ev x).cells.toList 0 cs (by simp;omega)
    rw[this]
    simp[k1]
   rw[<-hf]at k4
   obtain⟨cs',h5,h6⟩:=h3 ev _ (fun p hp'=>hp p (by simp[hp'])) k4
   refine⟨cs',?_,h6⟩
   simp only[List.map_cons,Instr.fill,ho]
   rw[if_neg (by simp[k1];omega)]
   exact h5
  ·exact h.elim
theorem aw3{parts:Array (Nat×Operand)}{K:List Seg->Prop}(ho:o.op=.build t parts)(hY:E.Y t=some i)(ha:i.agg=true)(hl:i.bY≠0->i.len≠0)
  (h:Dm (fun f=>if i.bY=0 then i.Ko[f]? else some (f*i.bY,i.bY)) s parts.toList i.zero K):∃l,K l/\cO E o s fr (.d (.agg l)) none:=by
 obtain⟨l,hK,hf⟩:=lV h
 refine⟨l,hK,.pure (fun b hb=>by simp[T.refs]at hb) fun S base w0 s' ρ a w hs g=>?_⟩
 obtain⟨f,z,h1,h2,_,h3,h4⟩:=(E.hY t i hY).info
 obtain⟨cs',h5,h6⟩:=hf (D:=Dt S base ρ) (w:=w) (ρ:=ρ) a.eval z.cells (fun p hp=>by
  have hm:p.2∈o.op.operands:=by rw[ho];simp only[Op.operands,List.mem_toArray,List.mem_map];exact⟨p,hp,rfl⟩
  have:=g.ev p.2;rwa [(hs _ hm).1]at this) (cZ h4)
 refine⟨.agg cs',?_,by have:=RA.agg h6;rwa [Array.toArray_toList]at this⟩
 have hb:E.P.built t ((parts.map fun(i,x)=>(i,a.eval x)).toList)=some cs':=by
  have e1:(parts.map fun(i,x)=>(i,a.eval x)).toList=parts.toList.map fun p=>(p.1,a.eval p.2):=by rw[Array.toList_map]
  rw[e1]
  unfold Program.built
  by_cases he:i.bY=0
  ·obtain⟨fs,k1,k2⟩:=(E.hY t i hY).Ko ha he
   simp only[h1,k1,h3,k2]
   rw[<-h5]
   congr 1
   funext q
   rw[if_pos he];simp
  ·have k1:=(E.hY t i hY).QX (hl he)
   obtain⟨_,j,k2,k3⟩:=(E.hY t i hY).arr he
   simp only[h1,k1,h3,k2]
   rw[<-h5]
   congr 1
   funext q
   rw[if_neg he,k3]
 simp only[execOp,ho,Sem.run_bind,run_build w t _ _ hb,Result.andThen_ok,Sem.run_pure]
theorem kC{S S':Nat->Prop}{w w':World}:∀{l m:List Seg} {cs ds:List Value},sameKind l m=true->RL S w l cs->RL S' w' m ds->cs.map aR=ds.map aR
 |[],[],_,_,_,h1,h2=>by rw[h1.qb,h2.qb]
 |[],_::_,_,_,h,_,_=>by cases h
 | .ints k n a::l,[],_,_,h,_,_=>by cases h
 | .bytes n a::l,[],_,_,h,_,_=>by cases h
 | .bools n a::l,[],_,_,h,_,_=>by cases h
 | .gen n a::l,m,_,_,h,_,_=>by cases m<;>cases h
 | .ints k n a::l,.ints k' n' b::m,_,_,h,.ints h1 r1,.ints h2 r2=>by
  simp only[sameKind,Bool.and_eq_true,decide_eq_true_eq,beq_iff_eq]at h
  obtain⟨⟨rfl,rfl⟩,h⟩:=h
  rw[List.map_append,List.map_append,kC h r1 r2]
  congr 1
  rw[List.map_map,List.map_map]
  refine List.ext_getElem (by simp[h1,h2]) fun i _ _=>by simp[aR]
 | .bytes n a::l,.bytes n' b::m,_,_,h,.bytes h1 r1,.bytes h2 r2=>by
  simp only[sameKind,Bool.and_eq_true,beq_iff_eq]at h
  obtain⟨rfl,h⟩:=h
  rw[List.map_append,List.map_append,kC h r1 r2]
  congr 1
  refine List.ext_getElem (by simp[HL,h1,h2]) fun i _ _=>by simp[HL,aR]
 | .bools n a::l,.bools n' b::m,_,_,h,.bools h1 r1,.bools h2 r2=>by
  simp only[sameKind,Bool.and_eq_true,beq_iff_eq]at h
  obtain⟨rfl,h⟩:=h
  rw[List.map_append,List.map_append,kC h r1 r2]
  congr 1
  rw[List.map_map,List.map_map]
  refine List.ext_getElem (by simp[h1,h2]) fun i _ _=>by simp[aR]
 | .ints k n a::l,.bytes _ _::m,_,_,h,_,_=>by cases h
 | .ints k n a::l,.bools _ _::m,_,_,h,_,_=>by cases h
 | .ints k n a::l,.gen _ _::m,_,_,h,_,_=>by cases h
 | .bytes n a::l,.ints _ _ _::m,_,_,h,_,_=>by cases h
 | .bytes n a::l,.bools _ _::m,_,_,h,_,_=>by cases h
 | .bytes n a::l,.gen _ _::m,_,_,h,_,_=>by cases h
 | .bools n a::l,.ints _ _ _::m,_,_,h,_,_=>by cases h
 | .bools n a::l,.bytes _ _::m,_,_,h,_,_=>by cases h
 | .bools n a::l,.gen _ _::m,_,_,h,_,_=>by cases h
theorem bo3{a b:List UInt8}(h:HL a=HL b):a=b:=bo1 (by unfold HC;exact congrArg List.toArray h)
theorem uF{S S':Nat->Prop}{w w':World}:∀{l m z:List Seg} {cs ds:List Value},sameKind l z=true->sameKind m z=true->RL S w l cs->RL S' w' m ds->(bM l m=true↔cs=ds)
 |[],[],_,_,_,_,_,h1,h2=>by rw[h1.qb,h2.qb];simp[bM]
 | .ints k n a::l,.ints k' n' b::m,.ints k2 n2 c::z,_,_,h,h',.ints h1 r1,.ints h2 r2=>by
  simp only[sameKind,Bool.and_eq_true,decide_eq_true_eq,beq_iff_eq]at h h'
  obtain⟨⟨rfl,rfl⟩,h⟩:=h
  obtain⟨⟨rfl,rfl⟩,h'⟩:=h'
  have ih:=uF h h' r1 r2
  simp only[bM,Bool.and_eq_true,decide_eq_true_eq,ih]
  constructor
  ·rintro⟨rfl,rfl⟩;rfl
  ·intro e
   obtain⟨e1,e2⟩:=List.append_inj e (by simp[h1,h2])
   exact⟨(List.map_inj_right (fun x y e=>by cases e;rfl)).1 e1,e2⟩
 | .bytes n a::l,.bytes n' b::m,.bytes n2 c::z,_,_,h,h',.bytes h1 r1,.bytes h2 r2=>by
  simp only[sameKind,Bool.and_eq_true,beq_iff_eq]at h h'
  obtain⟨rfl,h⟩:=h
  obtain⟨rfl,h'⟩:=h'
  have ih:=uF h h' r1 r2
  simp only[bM,Bool.and_eq_true,decide_eq_true_eq,ih]
  constructor
  ·rintro⟨rfl,rfl⟩;rfl
  ·intro e
   obtain⟨e1,e2⟩:=List.append_inj e (by simp[HL,h1,h2])
   exact⟨bo3 e1,e2⟩
 | .bools n a::l,.bools n' b::m,.bools n2 c::z,_,_,h,h',.bools h1 r1,.bools h2 r2=>by
  simp only[sameKind,Bool.and_eq_true,beq_iff_eq]at h h'
  obtain⟨rfl,h⟩:=h
  obtain⟨rfl,h'⟩:=h'
  have ih:=uF h h' r1 r2
  simp only[bM,Bool.and_eq_true,decide_eq_true_eq,ih]
  constructor
  ·rintro⟨rfl,rfl⟩;rfl
  ·intro e
   obtain⟨e1,e2⟩:=List.append_inj e (by simp[h1,h2])
   exact⟨(List.map_inj_right (fun x y e=>by cases e;rfl)).1 e1,e2⟩
 |[],m,_::_,_,_,h,_,_,_=>by cases h
 |[],x::_,[],_,_,_,h',_,_=>by cases x<;>cases h'
 | .gen _ _::_,_,z,_,_,h,_,_,_=>by cases z<;>cases h
 | .ints _ _ _::l,[],_::_,_,_,_,h',_,_=>by cases h'
 | .bytes _ _::l,[],_::_,_,_,_,h',_,_=>by cases h'
 | .bools _ _::l,[],_::_,_,_,_,h',_,_=>by cases h'
 | .ints _ _ _::l,_,[],_,_,h,_,_,_=>by cases h
 | .bytes _ _::l,_,[],_,_,h,_,_,_=>by cases h
 | .bools _ _::l,_,[],_,_,h,_,_,_=>by cases h
 | .ints _ _ _::l,_,.bytes _ _::_,_,_,h,_,_,_=>by cases h
 | .ints _ _ _::l,_,.bools _ _::_,_,_,h,_,_,_=>by cases h
 | .ints _ _ _::l,_,.gen _ _::_,_,_,h,_,_,_=>by cases h
 | .bytes _ _::l,_,.ints _ _ _::_,_,_,h,_,_,_=>by cases h
 | .bytes _ _::l,_,.bools _ _::_,_,_,h,_,_,_=>by cases h
 | .bytes _ _::l,_,.gen _ _::_,_,_,h,_,_,_=>by cases h
 | .bools _ _::l,_,.ints _ _ _::_,_,_,h,_,_,_=>by cases h
 | .bools _ _::l,_,.bytes _ _::_,_,_,h,_,_,_=>by cases h
 | .bools _ _::l,_,.gen _ _::_,_,_,h,_,_,_=>by cases h
 | .ints _ _ _::l,.bytes _ _::_,.ints _ _ _::_,_,_,_,h',_,_=>by cases h'
 | .ints _ _ _::l,.bools _ _::_,.ints _ _ _::_,_,_,_,h',_,_=>by cases h'
 | .ints _ _ _::l,.gen _ _::_,.ints _ _ _::_,_,_,_,h',_,_=>by cases h'
 | .bytes _ _::l,.ints _ _ _::_,.bytes _ _::_,_,_,_,h',_,_=>by cases h'
 | .bytes _ _::l,.bools _ _::_,.bytes _ _::_,_,_,_,h',_,_=>by cases h'
 | .bytes _ _::l,.gen _ _::_,.bytes _ _::_,_,_,_,h',_,_=>by cases h'
 | .bools _ _::l,.ints _ _ _::_,.bools _ _::_,_,_,_,h',_,_=>by cases h'
 | .bools _ _::l,.bytes _ _::_,.bools _ _::_,_,_,_,h',_,_=>by cases h'
 | .bools _ _::l,.gen _ _::_,.bools _ _::_,_,_,_,h',_,_=>by cases h'
theorem O6{l m:List Seg}(ho:o.op=.binOp op t x y yt)(hx:s.ev x=.d (.agg l))(hy:s.ev y=.d (.agg m))(hY:E.Y t=some i)(he:i.eq=true)(h1:sameKind l i.zero=true)(h2:sameKind m i.zero=true)
  (hr:op=.eql/\r=bM l m\/op=.neq/\r=!bM l m):cO E o s fr (.d (.v (.bool r))) none:=by
 refine .pure (fun b hb=>by simp[T.refs]at hb) fun S base w0 s' ρ a w hs g=>⟨_,?_,.v _⟩
 have k1:=bB hs g (x:=x) (by rw[ho];simp[Op.operands]) hx
 have k2:=bB hs g (x:=y) (by rw[ho];simp[Op.operands]) hy
 generalize hv:a.eval x=v at k1
 generalize hu:a.eval y=u at k2
 obtain⟨f,z,_,_,_,_,hz⟩:=(E.hY t i hY).info
 obtain⟨e1,e2⟩:=E.hE t i hY he
 cases k1 with
 |agg k1=>
  cases k2 with
  |agg k2=>
   rename_i cs ds
   obtain⟨b,hb,hbi⟩:=e2 w cs ds z.cells.toList hz (kC h1 k1 (cZ (S:=S) (w:=w) hz)) (kC h2 k2 (cZ (S:=S) (w:=w) hz))
   have hq:b=bM l m:=by
    have:=uF h1 h2 k1 k2
    rw[Bool.eq_iff_iff,hbi,this]
   have hg:=run_eqGuard_agg w op t x y cs.toArray ds.toArray e1
   rcases hr with⟨rfl,rfl⟩|⟨rfl,rfl⟩
   ·simp only[execOp,ho,hv,hu,Sem.run_bind,hg,Result.andThen_ok,binOp,Op.equal,Op.maxDepth,hb,Sem.run_pure,hq]
   ·simp only[execOp,ho,hv,hu,Sem.run_bind,hg,Result.andThen_ok,binOp,Op.equal,Op.maxDepth,hb,Sem.run_pure,hq]
theorem Wp{D:Nat->Prop}{w:World}:∀{l:List A} {vs:List Value} {i:Nat} {d:A},mH D w l vs->l[i]?=some d->∃v,vs[i]?=some v/\RA D w d v
 |_,_,0,d,.cons h _,e=>by cases e;exact⟨_,rfl,h⟩
 |_,_,i+1,d,.cons _ r,e=>by
  obtain⟨v,h1,h2⟩:=Wp r (i:=i) (by simpa using e)
  exact⟨v,by simpa using h1,h2⟩
theorem Tq{i:Nat}{l:List A}{d:A}(ho:o.op=.extract x i)(hx:s.ev x=.yE l)(hd:l[i]?=some d):cO E o s fr (.d d) none:=by
 refine .pure (fun b hb=>by simp[T.refs]at hb) fun S base w0 s' ρ a w hs g=>?_
 have k1:=bB hs g (x:=x) (by rw[ho];simp[Op.operands]) hx
 obtain⟨vs,h1,h2⟩:=k1
 obtain⟨v,h3,h4⟩:=Wp h2 hd
 refine⟨v,?_,h4⟩
 simp[execOp,ho,h1,Instr.extract,h3]
end
end
end Go.Proofs.YtegalalmamofdaaGreatDoor
