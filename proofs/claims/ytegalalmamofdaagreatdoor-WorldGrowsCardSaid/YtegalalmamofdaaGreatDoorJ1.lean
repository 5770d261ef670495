/- -/
import Derived.WalkKit
import Derived.ProofKit
import Derived.Lib.Hide
import Derived.OwnWalk
import Derived.Laws.AppendOwnNone
namespace Go.Proofs.YtegalalmamofdaaGreatDoor
set_option linter.all false
set_option maxRecDepth 100000
open Go.RowKit
variable{w w' a b:World}{g B base:Nat}{cs:Array Value}{t e:TypeId}{r:Option Nat}{bs:List UInt8}{v:Value}
section
def U(x:BitVec 64):Int:=(x.toNat:Int)
def Bt(x:UInt8):Int:=(x.toNat:Int)
theorem EN(x:BitVec 64):U x=(x.toNat:Int):=rfl
theorem bo6(x:BitVec 64):0<=U x/\U x<18446744073709551616:=by
 have:=x.isLt;unfold U;omega
theorem Nh(x:UInt8):0<=Bt x/\Bt x<256:=by
 have:=x.toNat_lt;unfold Bt;omega
theorem bn2{x y:UInt8}(h:Bt x=Bt y):x=y:=UInt8.toNat_inj.1 (Int.ofNat_inj.1 h)
theorem uR(x:BitVec 64):BitVec.ofInt 64 (U x)=x:=by
 unfold U;rw[BitVec.ofInt_natCast,BitVec.ofNat_toNat,BitVec.setWidth_eq]
theorem M9(x:BitVec 64):IntKind.u64.wrap (x.toNat:Int)=U x:=IntWalk.u64_in _ (by have:=x.isLt;omega)
theorem EO(x y:BitVec 64):bits .xor .u64 (U x) (U y)=U (x^^^y):=by
 show IntKind.u64.wrap ((BitVec.ofInt 64 (U x)^^^BitVec.ofInt 64 (U y)).toNat:Int)=_
 rw[uR,uR,M9]
theorem be0(x y:BitVec 64):bits .and .u64 (U x) (U y)=U (x&&&y):=by
 show IntKind.u64.wrap ((BitVec.ofInt 64 (U x)&&&BitVec.ofInt 64 (U y)).toNat:Int)=_
 rw[uR,uR,M9]
theorem bo7(x y:BitVec 64):bits .or .u64 (U x) (U y)=U (x|||y):=by
 show IntKind.u64.wrap ((BitVec.ofInt 64 (U x)|||BitVec.ofInt 64 (U y)).toNat:Int)=_
 rw[uR,uR,M9]
theorem be1(x:BitVec 64):bits .xor .u64 IntKind.u64.max (U x)=U (~~~x):=by
 show IntKind.u64.wrap ((BitVec.ofInt 64 IntKind.u64.max^^^BitVec.ofInt 64 (U x)).toNat:Int)=_
 rw[uR,show BitVec.ofInt 64 IntKind.u64.max=BitVec.allOnes 64 by decide,BitVec.allOnes_xor,M9]
theorem Nj(x:BitVec 64)(n:Nat):IntKind.u64.wrap (U x*2^n)=U (x<<<n):=by
 rw[IntKind.wrap_u64,EN,EN,BitVec.toNat_shiftLeft,Nat.shiftLeft_eq]
 rfl
theorem Z8(x:BitVec 64)(n:Nat):U x / 2^n=U (x>>>n):=by
 rw[EN,EN,BitVec.toNat_ushiftRight,Nat.shiftRight_eq_div_pow]
 rfl
theorem be3(x:BitVec 64)(n:Nat)(h:n<64):(x>>>n|||x<<<(64-n))=x.rotateRight n:=by
 rw[BitVec.rotateRight_def,Nat.mod_eq_of_lt h]
theorem bo8(x:BitVec 64)(n:Nat)(h:n<64):(x<<<(64-n)|||x>>>n)=x.rotateRight n:=by
 rw[BitVec.or_comm,be3 x n h]
structure W5 where
 a:BitVec 64
 b:BitVec 64
 c:BitVec 64
 d:BitVec 64
 e:BitVec 64
deriving DecidableEq
abbrev V5(x:W5):Value:=.agg #[.int .u64 (U x.a),.int .u64 (U x.b),.int .u64 (U x.c),.int .u64 (U x.d),.int .u64 (U x.e)]
def tw(x:BitVec 64)(m n:Nat):BitVec 64:=x^^^x.rotateRight m^^^x.rotateRight n
def ED(x:W5):W5:=⟨tw x.a 19 28,tw x.b 61 39,tw x.c 1 6,tw x.d 10 17,tw x.e 7 41⟩
def SL(x:W5):W5:=
 let a:=x.a^^^x.e
 let e:=x.e^^^x.d
 let c:=x.c^^^x.b
 let b:=x.b
 let d:=x.d
 let ta:= ~~~a&&&b
 let tb:= ~~~b&&&c
 let tc:= ~~~c&&&d
 let td:= ~~~d&&&e
 let te:= ~~~e&&&a
 let a:=a^^^tb
 let b:=b^^^tc
 let c:=c^^^td
 let d:=d^^^te
 let e:=e^^^ta
 let b:=b^^^a
 let a:=a^^^e
 let d:=d^^^c
 let c:= ~~~c
 ⟨a,b,c,d,e⟩
def bF5(r:Nat)(x:W5):W5:=ED (SL { x with c:=x.c^^^BitVec.ofNat 64 (240-15*r) })
def vQ:Nat->W5->W5
 |0,x=>x
 |n+1,x=>bF5 n (vQ n x)
def jy(x:W5):W5:=vQ 12 x
end
section
def aM(w:World)(g:Nat)(cs:Array Value)(t:TypeId):Prop:=w.heap[g]?=some (.cells cs t (0,0))
theorem aM.cell(h:aM w g cs t)(i:Nat):w.cell? ⟨g,i,none⟩=cs[i]?:=cell_of_row w g i cs t (0,0) h
theorem aM.frozen(h:aM w g cs t)(i:Nat):w.frozen? ⟨g,i,none⟩=false:=frozen_of_row w g i cs t h
theorem aM.lt(h:aM w g cs t):g<w.heap.size:=by
 rcases Nat.lt_or_ge g w.heap.size with h1|h1
 ·exact h1
 ·unfold aM at h;rw[Array.getElem?_eq_none h1]at h;cases h
theorem aM.below(h:aM w g cs t)(b:Below B w w')(hg:g<B):aM w' g cs t:=(b.block g hg).trans h
theorem aM.keep(h:aM w g cs t)(b:Below w.heap.size w w'):aM w' g cs t:=h.below b h.lt
theorem aM.new(w:World)(cs:Array Value)(t:TypeId):aM (w.alloc (.cells cs t)) w.heap.size cs t:=heap_alloc_new w _
theorem aM.newAt(cs:Array Value)(t:TypeId)(hg:g=w.heap.size):aM (w.alloc (.cells cs t)) g cs t:=hg▸aM.new w cs t
theorem aM.alloc(h:aM w g cs t)(o:Obj):aM (w.alloc o) g cs t:=(Below.heap_alloc w o g h.lt).trans h
theorem aM.drew(h:aM w g cs t):aM w.drew g cs t:=h
theorem aM.set(h:aM w g cs t)(i:Nat)(v:Value):aM (w.setCell ⟨g,i,none⟩ v) g (cs.setIfInBounds i v) t:=heap_setCell_same w g i cs t v h
theorem aM.other(h:aM w g cs t)(a:Addr)(v:Value)(hg:g≠a.block):aM (w.setCell a v) g cs t:=(heap_setCell_other w a g v hg).trans h
theorem aM.copy{cs cs':Array Value}(h:aM w g cs t)(e:cs=cs'):aM w g cs' t:=e▸h
theorem size_alloc(w:World)(o:Obj):(w.alloc o).heap.size=w.heap.size+1:=by
 show(w.heap.push o).size=_;simp
theorem _root_.Go.RowKit.Below.lift{B B':Nat}{a b c:World}(h:Below B a b)(k:Below B' b c)(hB:B<=B'):Below B a c:=h.trans (k.mono hB)
theorem aM.Zb{a b c d e:Value}(h:aM w g #[a,b,c,d,e] t)(a' b' c' d' e':Value):
  aM (((((w.setCell ⟨g,0,none⟩ a').setCell ⟨g,1,none⟩ b').setCell ⟨g,2,none⟩ c').setCell ⟨g,3,none⟩ d').setCell ⟨g,4,none⟩ e') g #[a',b',c',d',e'] t:=
 (((((h.set 0 a').set 1 b').set 2 c').set 3 d').set 4 e').copy (by simp)
theorem aM.LD{g T:Nat}(h:aM w g cs t)(hne:g≠T)(a' b' c' d' e':Value):
  aM (((((w.setCell ⟨T,0,none⟩ a').setCell ⟨T,1,none⟩ b').setCell ⟨T,2,none⟩ c').setCell ⟨T,3,none⟩ d').setCell ⟨T,4,none⟩ e') g cs t:=
 ((((h.other _ _ hne).other _ _ hne).other _ _ hne).other _ _ hne).other _ _ hne
theorem aM.Fu(h:aM w g cs t):aM w.drew.drew.drew.drew.drew g cs t:=h.drew.drew.drew.drew.drew
theorem nM{w w0:World}{B T:Nat}(h:Below B w0 w)(hT:B<=T)(a' b' c' d' e':Value):
  Below B w0 (((((w.setCell ⟨T,0,none⟩ a').setCell ⟨T,1,none⟩ b').setCell ⟨T,2,none⟩ c').setCell ⟨T,3,none⟩ d').setCell ⟨T,4,none⟩ e'):=
 ((((h.setCell (p:=⟨T,0,none⟩) hT _).setCell (p:=⟨T,1,none⟩) hT _).setCell (p:=⟨T,2,none⟩) hT _).setCell (p:=⟨T,3,none⟩) hT _).setCell (p:=⟨T,4,none⟩) hT _
theorem wF{w w0:World}(h:Below B w0 w):Below B w0 w.drew.drew.drew.drew.drew:=h.drew.drew.drew.drew.drew
theorem aM.five{a b c d e:Value}(h:aM w g #[a,b,c,d,e] t):
  w.cell? ⟨g,0,none⟩=some a/\w.cell? ⟨g,1,none⟩=some b/\w.cell? ⟨g,2,none⟩=some c/\w.cell? ⟨g,3,none⟩=some d/\w.cell? ⟨g,4,none⟩=some e:=
 ⟨h.cell 0,h.cell 1,h.cell 2,h.cell 3,h.cell 4⟩
theorem bH(w:World)(r:Option Nat):w.grownBy w r:=⟨rfl,rfl,rfl,Nat.le_refl _,fun _ _ _=>rfl⟩
theorem gQ{a b c:World}(h:a.grownBy b r)(k:b.grownBy c r):a.grownBy c r:=
 ⟨k.os.trans h.os,k.tape.trans h.tape,k.output.trans h.output,Nat.le_trans h.size k.size,fun i hi hr=>(k.block i (Nat.lt_of_lt_of_le hi h.size) hr).trans (h.block i hi hr)⟩
theorem jw{a b c:World}(h:a.grownBy b r)(k:Below b.heap.size b c):a.grownBy c r:=
 gQ h ⟨k.os,k.tape,k.output,k.size,fun i hi _=>k.block i hi⟩
theorem lW(h:a.grownBy b r):a.grownBy b.drew r:=gQ h ⟨rfl,rfl,rfl,Nat.le_refl _,fun _ _ _=>rfl⟩
theorem ay(h:a.grownBy b (some g))(i:Nat)(v:Value):a.grownBy (b.setCell ⟨g,i,none⟩ v) (some g):=
 gQ h ⟨rfl,rfl,rfl,by simp[World.setCell],fun k _ hr=>heap_setCell_other _ _ _ _ (fun e=>hr (congrArg some e))⟩
theorem below_grown{a b c:World}(h:Below B a b)(k:b.grownBy c (some g))(hg:B<=g)(hB:B<=b.heap.size):Below B a c:=
 h.grown k hB (fun _ e=>by injection e with e;omega)
theorem aM.grown{g g':Nat}(h:aM w g cs t)(k:w.grownBy w' (some g'))(hne:g≠g'):aM w' g cs t:=
 (k.block g h.lt (fun e=>hne (by injection e))).trans h
end
section
def w8(c:UInt8):BitVec 64:=BitVec.ofNat 64 c.toNat
theorem bL8(c:UInt8):U (w8 c)=Bt c:=by
 have:=c.toNat_lt
 unfold w8 Bt;rw[EN,BitVec.toNat_ofNat,Nat.mod_eq_of_lt (by omega)]
theorem bG1(c:UInt8)(n:Nat):IntKind.u64.wrap (Bt c*2^n)=U (w8 c<<<n):=by rw[<-bL8,Nj]
def uy(w:BitVec 64)(j:Nat):UInt8:=UInt8.ofNat ((w>>>(56-8*j)).toNat)
theorem D5(w:BitVec 64)(j:Nat):IntKind.u8.wrap (U w / 2^(56-8*j))=Bt (uy w j):=by
 rw[Z8,IntKind.wrap_u8,EN]
 unfold uy Bt
 rw[UInt8.toNat_ofNat']
 rfl
structure Sp where
 x:W5
 at_:Nat
def takeB(s:Sp)(c:UInt8):Sp:=
 let x:W5:={ s.x with a:=s.x.a^^^(w8 c<<<(56-8*s.at_)) }
 if s.at_=7 then⟨jy x,0⟩else⟨x,s.at_+1⟩
def takes(s:Sp)(l:List UInt8):Sp:=l.foldl takeB s
theorem H6(s:Sp)(l:List UInt8)(c:UInt8):takes s (l++[c])=takeB (takes s l) c:=by unfold takes;rw[List.foldl_append];rfl
theorem jE(s:Sp)(l m:List UInt8):takes s (l++m)=takes (takes s l) m:=by unfold takes;rw[List.foldl_append]
theorem Qk(s:Sp)(c:UInt8)(h:s.at_<=7):(takeB s c).at_<=7:=by
 unfold takeB
 by_cases h7:s.at_=7
 ·simp[h7]
 ·simp[h7];omega
theorem xE(l:List UInt8):∀(s:Sp),s.at_<=7->(takes s l).at_<=7:=by
 induction l with
 |nil=>exact fun s h=>h
 |cons c l ih=>exact fun s h=>ih _ (Qk s c h)
def mE:Nat->W5->W5
 |0,x=>x
 |n+1,x=>jy (mE n x)
def bD7(x:W5)(n:Nat):UInt8:=uy (mE (n / 8+1) x).a (n%8)
def outs(x:W5):List UInt8:=(List.range 32).map (bD7 x)
def oJ(s:Sp):W5:={ s.x with a:=s.x.a^^^(0x80#64<<<(56-8*s.at_)) }
def uE(s:Sp):List UInt8:=outs (oJ s)
def gJ:Sp:=⟨jy ⟨32,0,0,0,0⟩,0⟩
def zP(l:List UInt8):List UInt8:=uE (takes gJ l)
theorem mD(x:W5):(outs x).length=32:=by simp[outs]
theorem bG(l:List UInt8):(zP l).length=32:=mD _
def aD(h:List UInt8)(label:List UInt8)(l:List UInt8):List UInt8:=zP (h++(UInt8.ofNat label.length::label)++l)
def HC(l:List UInt8):Array Value:=(l.map fun b=>Value.int .u8 (Bt b)).toArray
def HV(l:List UInt8):Value:=.agg (HC l)
theorem dO(l:List UInt8):(HC l).size=l.length:=by simp[HC]
theorem bo0(l:List UInt8)(i:Nat):(HC l)[i]?=(l[i]?).map fun b=>Value.int .u8 (Bt b):=by simp[HC]
theorem ql(l:List UInt8)(i:Nat)(h:i<l.length):(HC l)[i]?=some (.int .u8 (Bt l[i])):=by rw[bo0,List.getElem?_eq_getElem h];rfl
theorem KX(l:List UInt8)(i:Nat)(b:UInt8):(HC l).setIfInBounds i (.int .u8 (Bt b))=HC (l.set i b):=by
 simp[HC,List.map_set]
theorem bo1{l m:List UInt8}(h:HC l=HC m):l=m:=by
 have h2:l.map (fun b=>Value.int .u8 (Bt b))=m.map (fun b=>Value.int .u8 (Bt b)):=by simpa[HC]using h
 refine List.map_inj_right (f:=fun b=>Value.int .u8 (Bt b)) (fun x y hxy=>?_) |>.1 h2
 injection hxy with _ h3
 exact bn2 h3
theorem Zc(out:List UInt8)(n k:Nat)(hn:n<out.length)(hk:out.length=n+1+k)(z:List UInt8)(hz:z.length=k)(b:UInt8):
  (out.take n++b::z).set n out[n]=out.take (n+1)++z:=by
 rw[List.set_append_right _ _ (by rw[List.length_take];omega),List.length_take,Nat.min_eq_left (by omega),Nat.sub_self,List.set_cons_zero,List.take_succ_eq_append_getElem hn,List.append_assoc]
 rfl
structure fP(w:World)(a:Option Addr)(len:Nat)(bs:List UInt8):Prop where
 len_eq:len=bs.length
 small:bs.length<=maxLen
 cells:bs=[]\/∃b off,a=some ⟨b,off,none⟩/\∀(i:Nat) (h:i<bs.length),w.cell? ⟨b,off+i,none⟩=some (.int .u8 (Bt bs[i]))
theorem fP.nil(w:World)(a:Option Addr):fP w a 0 []:=⟨rfl,by simp,.inl rfl⟩
theorem fP.mono{a:Option Addr}{len:Nat}(h:fP w a len bs)(k:∀x v,w.cell? x=some v->a=some ⟨x.block,(a.getD default).off,none⟩->w'.cell? x=some v):fP w' a len bs:=by
 refine⟨h.len_eq,h.small,?_⟩
 rcases h.cells with h1|⟨b,off,rfl,hc⟩
 ·exact .inl h1
 ·exact .inr ⟨b,off,rfl,fun i hi=>k _ _ (hc i hi) (by simp)⟩
theorem fP.below{a:Option Addr}{len:Nat}(h:fP w a len bs)(b:Below w.heap.size w w'):fP w' a len bs:=
 h.mono fun _ _ hx _=>(b.cell (block_lt_of_cell hx)).trans hx
abbrev C6(s:Sp):Array Value:=#[.int .u64 (U s.x.a),.int .u64 (U s.x.b),.int .u64 (U s.x.c),.int .u64 (U s.x.d),.int .u64 (U s.x.e),.int .i64 s.at_]
theorem aM.six{a b c d e f:Value}(h:aM w g #[a,b,c,d,e,f] t):
  w.cell? ⟨g,0,none⟩=some a/\w.cell? ⟨g,1,none⟩=some b/\w.cell? ⟨g,2,none⟩=some c/\w.cell? ⟨g,3,none⟩=some d/\w.cell? ⟨g,4,none⟩=some e/\w.cell? ⟨g,5,none⟩=some f:=
 ⟨h.cell 0,h.cell 1,h.cell 2,h.cell 3,h.cell 4,h.cell 5⟩
end
section
def HL(l:List UInt8):List Value:=l.map fun b=>Value.int .u8 (Bt b)
theorem gX(l:List UInt8):(HL l).length=l.length:=by simp[HL]
theorem Xd(l m:List UInt8):HL (l++m)=HL l++HL m:=by simp[HL]
theorem Z4(l:List UInt8)(i:Nat):(HL l)[i]?=(l[i]?).map fun b=>Value.int .u8 (Bt b):=by simp[HL]
theorem Z5(l:List UInt8):∀u∈HL l,u.oneCell'=true:=by
 intro u hu
 simp only[HL,List.mem_map]at hu
 obtain⟨b,_,rfl⟩:=hu
 rfl
theorem xH(l:List UInt8):(HC l).toList=HL l:=by simp[HC,HL]
def iA(w:World)(base:Nat)(e:TypeId)(v:Value)(bs:List UInt8):Prop:=w.ownsRow base e 1 v bs.length (HL bs)
theorem iA.lit(w:World)(base:Nat)(e:TypeId)(bs:List UInt8)(hb:base<=w.heap.size)(hm:bs.length<=maxLen):
  iA (w.alloc (.cells (HC bs) e)) base e (.slice (some ⟨w.heap.size,0,none⟩) bs.length bs.length) bs:=by
 have:=World.ownsRow_lit (base:=base) (e:=e) (size:=1) w (HC bs) bs.length hb hm (by rw[dO,Nat.mul_one])
 rw[xH]at this
 exact this
theorem iA.yN{g n base:Nat}(bs:List UInt8)(cs:Array Value)(hc:cs=HC bs)(hg:g=w.heap.size)(hn:n=bs.length)(hb:base<=w.heap.size)(hm:bs.length<=maxLen):
  iA (w.alloc (.cells cs e)) base e (.slice (some ⟨g,0,none⟩) n n) bs:=by
 subst hc hg hn
 exact iA.lit w base e bs hb hm
theorem fP.yN{g n:Nat}(bs:List UInt8)(cs:Array Value)(hc:cs=HC bs)(hg:g=w.heap.size)(hn:n=bs.length)(hm:bs.length<=maxLen):
  fP (w.alloc (.cells cs e)) (some ⟨g,0,none⟩) n bs:=by
 subst hc hg hn
 refine⟨rfl,hm,.inr ⟨w.heap.size,0,rfl,fun i hi=>?_⟩⟩
 rw[Nat.zero_add,cell_of_row _ _ i _ _ _ (aM.new w (HC bs) e)]
 exact ql bs i hi
theorem Db(bs:List UInt8)(h:bs.length<=1000):bs.length<=maxLen:=by simp only[maxLen];omega
theorem iA.kept(h:iA w base e v bs)(hg:w.grownBy w' r)(hne:v.ownBlock=none\/v.ownBlock≠r):iA w' base e v bs:=World.ownsRow.kept h hg hne
theorem iA.below(h:iA w base e v bs)(b:Below w.heap.size w w'):iA w' base e v bs:=
 h.kept (r:=none) ⟨b.os,b.tape,b.output,b.size,fun k hk _=>b.block k hk⟩ (by cases v.ownBlock<;>simp)
theorem iA.has(h:iA w base e v bs)(hn:bs≠[]):
  ∃g cap,v=.slice (some ⟨g,0,none⟩) bs.length cap/\base<=g/\g<w.heap.size/\bs.length<=cap/\cap<=maxLen:=by
 rcases h.2 with⟨_,h0⟩|⟨g,cap,cur,rfl,hb,hg,h1,h2,_⟩
 ·exact absurd (List.length_eq_zero_iff.1 h0) hn
 ·exact⟨g,cap,rfl,hb,(Array.getElem?_eq_some_iff.1 hg).1,h1,h2⟩
theorem iA.aQ6(h:iA w base e v bs)(n:Nat)(hl:n=bs.length)(hn:0<n):
  ∃g cap,v=.slice (some ⟨g,0,none⟩) n cap/\base<=g/\g<w.heap.size/\n<=cap/\cap<=maxLen:=by
 subst hl
 exact h.has (List.length_pos_iff.1 hn)
theorem iA.row{base g cap n:Nat}(h:iA w base e (.slice (some ⟨g,0,none⟩) n cap) bs)(hm:bs.length<=maxLen)(hn:n=bs.length):fP w (some ⟨g,0,none⟩) n bs:=by
 refine⟨hn,hm,.inr ⟨g,0,rfl,fun i hi=>?_⟩⟩
 have h2:=World.ownsRow.cells h (g:=g) rfl i (.int .u8 (Bt bs[i])) (by rw[Z4,List.getElem?_eq_getElem hi];rfl)
 have hadd:(⟨g,0,none⟩:Addr).add i=⟨g,0+i,none⟩:=by unfold Addr.add;split<;>simp_all
 rwa [hadd]at h2
theorem eF{P:Program}{ops:Array Oper}{rest:List Oper}{o:Oper}{a:Act}{Q:Exit->Act->World->Prop}(hgd:o.guard=none)(s x:Operand)(t:TypeId)
  (ho:o.op=.call { callee:=.builtin .append,args:=#[s,x],argTypes:=#[t,t] })
  (base:Nat)(e:TypeId)(ht:P.underlying t=some (.slice e))(hinfo:(P.info? e).map (fun i=>(i.zero,i.size,i.bytes))=some (some (.int .u8 0),1,1))
  (v:Value)(bs:List UInt8)(hs:a.eval s=v)(hown:iA w base e v bs)
  (ad:Option Addr)(m c:Nat)(bs2:List UInt8)(hx:a.eval x=.slice ad m c)(hr:fP w ad m bs2)(hnil:ad=none->c=0)
  (hlen:bs.length+bs2.length<=140737488355328)(hbase:base<=w.heap.size)
  (h:∀v' w',iA w' base e v' (bs++bs2)->w.grownBy w' v.ownBlock->Below base w w'->wpList P ops Q rest (a.put o.dst v') w'):wpList P ops Q (o::rest) a w:=by
 have hbel:∀w',w.grownBy w' v.ownBlock->Below base w w':=fun w' hg=>(Below.refl base w).grown hg hbase (fun k hk=>(World.ownsRow.lt hown k hk).1)
 obtain⟨i0,hi,hz0,hz1,hz2⟩:=info_parts hinfo
 have hm:=hr.len_eq
 subst hm
 cases ad with
 |none=>
  have hc:=hnil rfl
  subst hc
  have hb2:bs2=[]:=by rcases hr.cells with h1|⟨b,off,h1,_⟩;exact h1;cases h1
  subst hb2
  refine wpList_append_own_none hgd s x t ho base e i0 1 ht hi v bs.length (HL bs) hs hown hx (h v w ?_ ⟨rfl,rfl,rfl,Nat.le_refl _,fun _ _ _=>rfl⟩ (Below.refl _ _))
  rw[List.append_nil];exact hown
 |some ad=>
  refine wpList_append_own w hgd s x t ho base e i0 (.int .u8 0) 1 1 ht hi hz0 hz1 hz2 rfl (by decide) v bs.length (HL bs) hs hown ad bs2.length c (HL bs2) hx (by rw[gX,Nat.mul_one]) ?_ (Z5 _) (by simp only[maxLen];omega) (by omega) hbase ?_
  ·intro j u hu
   rcases hr.cells with h1|⟨b,off,h1,hc⟩
   ·subst h1;simp[HL]at hu
   ·injection h1 with h1
    subst h1
    rw[Z4]at hu
    by_cases hj:j<bs2.length
    ·rw[List.getElem?_eq_getElem hj]at hu
     injection hu with hu
     have hadd:(⟨b,off,none⟩:Addr).add j=⟨b,off+j,none⟩:=by unfold Addr.add;split<;>simp_all
     rw[hadd,hc j hj];exact congrArg some hu
    ·rw[List.getElem?_eq_none (by omega)]at hu;cases hu
  ·intro v' w' h1 h2 _
   refine h v' w' ?_ h2 (hbel _ h2)
   unfold iA
   rw[List.length_append,Xd]
   exact h1
theorem iA.forms(h:iA w base e v bs)(hm:bs.length<=maxLen):∃a c,v=.slice a bs.length c/\fP w a bs.length bs/\(a=none->c=0):=by
 by_cases hb:bs=[]
 ·subst hb
  rcases h.2 with⟨h1,_⟩|⟨g,cap,cur,h1,_⟩
  ·exact⟨none,0,h1,fP.nil _ _,fun _=>rfl⟩
  ·exact⟨_,cap,h1,fP.nil _ _,fun e=>by cases e⟩
 ·obtain⟨g,cap,rfl,_,_,_,_⟩:=h.has hb
  exact⟨_,cap,rfl,h.row hm rfl,fun e=>by cases e⟩
theorem fP.Gm(h:aM w g (HC bs) t)(hs:bs.length<=maxLen)(n:Nat)(hn:n=bs.length):fP w (some ⟨g,0,none⟩) n bs:=
 ⟨hn,hs,.inr ⟨g,0,rfl,fun i hi=>by rw[Nat.zero_add];exact(h.cell i).trans (ql bs i hi)⟩⟩
end
section
mutual
inductive A where
 |v(x:Value)
 |agg(l:List Seg)
 |row(n:Nat)(l:List Seg)
 |ref(l:List Seg)(off:Nat)
 |sref(l:List Seg)(off:Nat)
 |recs(n sz:Nat)(f:Nat->List Seg)
 |NM(f:FuncId)(l:List A)
inductive Seg where
 |ints(k:IntKind)(n:Nat)(zs:List Int)
 |bytes(n:Nat)(bs:List UInt8)
 |bools(n:Nat)(bs:List Bool)
 |gen(n:Nat)(l:List A)
end
def Seg.n:Seg->Nat
 | .ints _ n _=>n
 | .bytes n _=>n
 | .bools n _=>n
 | .gen n _=>n
def dM:List Seg->Nat
 |[]=>0
 |s::l=>s.n+dM l
def Ni(S:Nat->Prop)(w:World)(a:Option Addr)(cs:List Value):Prop:=
 cs=[]\/∃b o,a=some ⟨b,o,none⟩/\S b/\b<w.heap.size/\∀(i:Nat) (h:i<cs.length),w.cell? ⟨b,o+i,none⟩=some cs[i]
mutual
inductive RA(S:Nat->Prop)(w:World):A->Value->Prop
 |v (x:Value):RA S w (.v x) x
 |agg {l:List Seg} {cs:List Value} (h:RL S w l cs):RA S w (.agg l) (.agg cs.toArray)
 |row {n c:Nat} {l:List Seg} {cs:List Value} {a:Option Addr} (h:RL S w l cs) (h1:n<=c) (h2:c<=maxLen) (h3:a=none->c=0) (h4:Ni S w a cs):RA S w (.row n l) (.slice a n c)
 |ref {b o off:Nat} {l:List Seg} {cs:List Value} (h:RL S w l cs) (h4:Ni S w (some ⟨b,o,none⟩) cs):RA S w (.ref l off) (.pointer (some ⟨b,o+off,none⟩))
 |sref {b o off:Nat} {l:List Seg} {cs:List Value} (h:RL S w l cs) (h4:Ni S w (some ⟨b,o,none⟩) cs):RA S w (.sref l off) (.pointer (some ⟨b,o+off,none⟩))
 |recs {n sz c:Nat} {f:Nat->List Seg} {cs:Nat->List Value} {a:Option Addr} (h:∀j,j<n->RL S w (f j) (cs j)) (h1:n<=c) (h2:c<=maxLen) (h3:a=none->c=0) (h4:n=0\/∃b o,a=some ⟨b,o,none⟩/\∀j,j<n->Ni S w (some ⟨b,o+j*sz,none⟩) (cs j)):RA S w (.recs n sz f) (.slice a n c)
 |NM {f:FuncId} {l:List A} {vs:List Value} (h:RG S w l vs):RA S w (.NM f l) (.func (.func f) #[] vs.toArray)
inductive RL(S:Nat->Prop)(w:World):List Seg->List Value->Prop
 |nil:RL S w [] []
 |ints {k:IntKind} {n:Nat} {zs:List Int} {l:List Seg} {cs:List Value} (h:zs.length=n) (r:RL S w l cs):RL S w (.ints k n zs::l) (zs.map (Value.int k)++cs)
 |bytes {n:Nat} {bs:List UInt8} {l:List Seg} {cs:List Value} (h:bs.length=n) (r:RL S w l cs):RL S w (.bytes n bs::l) (HL bs++cs)
 |bools {n:Nat} {bs:List Bool} {l:List Seg} {cs:List Value} (h:bs.length=n) (r:RL S w l cs):RL S w (.bools n bs::l) (bs.map Value.bool++cs)
 |gen {n:Nat} {jq:List A} {vs:List Value} {l:List Seg} {cs:List Value} (g:RG S w jq vs) (h:jq.length=n) (r:RL S w l cs):RL S w (.gen n jq::l) (vs++cs)
inductive RG(S:Nat->Prop)(w:World):List A->List Value->Prop
 |nil:RG S w [] []
 |cons {a:A} {v:Value} {jq:List A} {vs:List Value} (h:RA S w a v) (h1:v.oneCell'=true) (r:RG S w jq vs):RG S w (a::jq) (v::vs)
end
def Keeps(S:Nat->Prop)(w:World)(S':Nat->Prop)(w':World):Prop:=
 w.heap.size<=w'.heap.size/\∀b,b<w.heap.size->S b->S' b/\∀o,w'.cell? ⟨b,o,none⟩=w.cell? ⟨b,o,none⟩
theorem Ni.up{S S':Nat->Prop}{a:Option Addr}{cs:List Value}(k:Keeps S w S' w')(h:Ni S w a cs):Ni S' w' a cs:=by
 rcases h with h|⟨b,o,h1,h2,h3,h4⟩
 ·exact .inl h
 ·exact .inr ⟨b,o,h1,(k.2 b h3 h2).1,Nat.lt_of_lt_of_le h3 k.1,fun i hi=>((k.2 b h3 h2).2 _).trans (h4 i hi)⟩
section
variable {S S' : Nat -> Prop} {w w' : World}
mutual
theorem RA.up(k:Keeps S w S' w'):∀{a:A} {v:Value},RA S w a v->RA S' w' a v
 |_,_,.v x=>.v x
 |_,_,.agg h=>.agg (h.up k)
 |_,_,.row h h1 h2 h3 h4=>.row (h.up k) h1 h2 h3 (h4.up k)
 |_,_,.ref h h4=>.ref (h.up k) (h4.up k)
 |_,_,.sref h h4=>.sref (h.up k) (h4.up k)
 |_,_,.recs h h1 h2 h3 h4=>.recs (fun j hj=>(h j hj).up k) h1 h2 h3 (h4.imp id fun⟨b,o,e,h⟩=>⟨b,o,e,fun j hj=>(h j hj).up k⟩)
 |_,_,.NM h=>.NM (h.up k)
theorem RL.up(k:Keeps S w S' w'):∀{l:List Seg} {cs:List Value},RL S w l cs->RL S' w' l cs
 |_,_,.nil=>.nil
 |_,_,.ints h r=>.ints h (r.up k)
 |_,_,.bytes h r=>.bytes h (r.up k)
 |_,_,.bools h r=>.bools h (r.up k)
 |_,_,.gen g h r=>.gen (g.up k) h (r.up k)
theorem RG.up(k:Keeps S w S' w'):∀{l:List A} {cs:List Value},RG S w l cs->RG S' w' l cs
 |_,_,.nil=>.nil
 |_,_,.cons h h1 r=>.cons (h.up k) h1 (r.up k)
end
theorem RG.len:∀{l:List A} {cs:List Value},RG S w l cs->cs.length=l.length
 |_,_,.nil=>rfl
 |_,_,.cons _ _ r=>by simp[r.len]
theorem RL.len:∀{l:List Seg} {cs:List Value},RL S w l cs->cs.length=dM l
 |_,_,.nil=>rfl
 |_,_,.ints h r=>by simp[dM,Seg.n,h,r.len]
 |_,_,.bytes h r=>by simp[dM,Seg.n,h,r.len,gX]
 |_,_,.bools h r=>by simp[dM,Seg.n,h,r.len]
 |_,_,.gen g h r=>by simp[dM,Seg.n,h,r.len,g.len]
theorem RG.one:∀{l:List A} {cs:List Value},RG S w l cs->∀v∈cs,v.oneCell'=true
 |_,_,.nil=>by simp
 |_,_,.cons _ h1 r=>fun v hv=>by rcases List.mem_cons.1 hv with rfl|hv;exact h1;exact r.one v hv
theorem RL.one:∀{l:List Seg} {cs:List Value},RL S w l cs->∀v∈cs,v.oneCell'=true
 |_,_,.nil=>by simp
 |_,_,.ints h r=>fun v hv=>by
  rcases List.mem_append.1 hv with hv|hv
  ·obtain⟨z,_,rfl⟩:=List.mem_map.1 hv;rfl
  ·exact r.one v hv
 |_,_,.bytes h r=>fun v hv=>by
  rcases List.mem_append.1 hv with hv|hv
  ·exact Z5 _ v hv
  ·exact r.one v hv
 |_,_,.bools h r=>fun v hv=>by
  rcases List.mem_append.1 hv with hv|hv
  ·obtain⟨z,_,rfl⟩:=List.mem_map.1 hv;rfl
  ·exact r.one v hv
 |_,_,.gen g h r=>fun v hv=>by
  rcases List.mem_append.1 hv with hv|hv
  ·exact g.one v hv
  ·exact r.one v hv
theorem RL.append:∀{l m:List Seg} {cs ds:List Value},RL S w l cs->RL S w m ds->RL S w (l++m) (cs++ds)
 |_,_,_,_,.nil,k=>k
 |_,_,_,_,.ints h r,k=>by rw[List.append_assoc];exact .ints h (r.append k)
 |_,_,_,_,.bytes h r,k=>by rw[List.append_assoc];exact .bytes h (r.append k)
 |_,_,_,_,.bools h r,k=>by rw[List.append_assoc];exact .bools h (r.append k)
 |_,_,_,_,.gen g h r,k=>by rw[List.append_assoc];exact .gen g h (r.append k)
theorem RL.head{s:Seg}{l:List Seg}{cs:List Value}(h:RL S w (s::l) cs):∃c d,cs=c++d/\RL S w [s] c/\RL S w l d/\c.length=s.n:=by
 have go:∃c d,cs=c++d/\RL S w [s] c/\RL S w l d:=by
  cases h with
  |ints h r=>exact⟨_,_,rfl,by have:=RL.ints (k:=‹_›) h (RL.nil (S:=S) (w:=w));rwa [List.append_nil]at this,r⟩
  |bytes h r=>exact⟨_,_,rfl,by have:=RL.bytes h (RL.nil (S:=S) (w:=w));rwa [List.append_nil]at this,r⟩
  |bools h r=>exact⟨_,_,rfl,by have:=RL.bools h (RL.nil (S:=S) (w:=w));rwa [List.append_nil]at this,r⟩
  |gen g h r=>exact⟨_,_,rfl,by have:=RL.gen g h (RL.nil (S:=S) (w:=w));rwa [List.append_nil]at this,r⟩
 obtain⟨c,d,h1,h2,h3⟩:=go
 exact⟨c,d,h1,h2,h3,by have:=h2.len;simpa[dM]using this⟩
theorem RL.qb{cs:List Value}(h:RL S w [] cs):cs=[]:=by cases h;rfl
def Seg.sub(s:Seg)(off n:Nat):Seg:=
 match s with
 | .ints k _ zs=>.ints k n ((zs.drop off).take n)
 | .bytes _ bs=>.bytes n ((bs.drop off).take n)
 | .bools _ bs=>.bools n ((bs.drop off).take n)
 | .gen _ l=>.gen n ((l.drop off).take n)
def Seg.cell(s:Seg)(i:Nat):A:=
 match s with
 | .ints k _ zs=>.v (.int k (zs.getD i 0))
 | .bytes _ bs=>.v (.int .u8 (Bt (bs.getD i 0)))
 | .bools _ bs=>.v (.bool (bs.getD i false))
 | .gen _ l=>l.getD i (.v undef)
theorem RG.sub:∀{l:List A} {cs:List Value},RG S w l cs->∀(off n:Nat),RG S w ((l.drop off).take n) ((cs.drop off).take n)
 |_,_,.nil,off,n=>by simp;exact .nil
 |_,_,.cons h h1 r,0,0=>by simp;exact .nil
 |_,_,.cons h h1 r,0,n+1=>by simpa using .cons h h1 (by simpa using r.sub 0 n)
 |_,_,.cons h h1 r,off+1,n=>by simpa using r.sub off n
theorem RG.at:∀{l:List A} {cs:List Value},RG S w l cs->∀(i:Nat),i<l.length->∃v,cs[i]?=some v/\RA S w (l.getD i (.v undef)) v/\v.oneCell'=true
 |_,_,.nil,i,h=>by simp at h
 |_,_,.cons h h1 r,0,_=>⟨_,rfl,h,h1⟩
 |_,_,.cons h h1 r,i+1,hi=>by
  obtain⟨v,k1,k2,k3⟩:=r.at i (by simpa using hi)
  exact⟨v,by simpa using k1,by simpa using k2,k3⟩
theorem RL.fI{k:IntKind}{n:Nat}{zs:List Int}{cs:List Value}(h:zs.length=n)(e:cs=zs.map (Value.int k)):RL S w [.ints k n zs] cs:=by
 subst e;have:=RL.ints (k:=k) h (RL.nil (S:=S) (w:=w));rwa [List.append_nil]at this
theorem RL.ofBytes{n:Nat}{cs:List Value}(h:bs.length=n)(e:cs=HL bs):RL S w [.bytes n bs] cs:=by
 subst e;have:=RL.bytes h (RL.nil (S:=S) (w:=w));rwa [List.append_nil]at this
theorem RL.yg{n:Nat}{bs:List Bool}{cs:List Value}(h:bs.length=n)(e:cs=bs.map Value.bool):RL S w [.bools n bs] cs:=by
 subst e;have:=RL.bools h (RL.nil (S:=S) (w:=w));rwa [List.append_nil]at this
theorem RL.iL{n:Nat}{jq:List A}{cs:List Value}(h:jq.length=n)(g:RG S w jq cs):RL S w [.gen n jq] cs:=by
 have:=RL.gen g h (RL.nil (S:=S) (w:=w));rwa [List.append_nil]at this
theorem RL.fB{k:IntKind}{n:Nat}{zs:List Int}{cs:List Value}(h:RL S w [.ints k n zs] cs):zs.length=n/\cs=zs.map (Value.int k):=by
 cases h with|ints h r=>cases r;exact⟨h,by simp⟩
theorem RL.iZ{n:Nat}{cs:List Value}(h:RL S w [.bytes n bs] cs):bs.length=n/\cs=HL bs:=by
 cases h with|bytes h r=>cases r;exact⟨h,by simp⟩
theorem RL.rY{n:Nat}{bs:List Bool}{cs:List Value}(h:RL S w [.bools n bs] cs):bs.length=n/\cs=bs.map Value.bool:=by
 cases h with|bools h r=>cases r;exact⟨h,by simp⟩
theorem RL.gB{n:Nat}{jq:List A}{cs:List Value}(h:RL S w [.gen n jq] cs):jq.length=n/\RG S w jq cs:=by
 cases h with|gen g h r=>cases r;exact⟨h,by simpa using g⟩
theorem RL.sub{s:Seg}{cs:List Value}(h:RL S w [s] cs)(off n:Nat)(hn:off+n<=s.n):RL S w [s.sub off n] ((cs.drop off).take n):=by
 cases s with
 |ints k m zs=>
  obtain⟨h1,rfl⟩:=h.fB
  exact .fI (by simp[Seg.n]at hn ⊢;omega) (by simp[List.map_take,List.map_drop])
 |bytes m bs=>
  obtain⟨h1,rfl⟩:=h.iZ
  exact .ofBytes (by simp[Seg.n]at hn ⊢;omega) (by simp[HL,List.map_take,List.map_drop])
 |bools m bs=>
  obtain⟨h1,rfl⟩:=h.rY
  exact .yg (by simp[Seg.n]at hn ⊢;omega) (by simp[List.map_take,List.map_drop])
 |gen m jq=>
  obtain⟨h1,g⟩:=h.gB
  exact .iL (by simp[Seg.n]at hn ⊢;omega) (g.sub off n)
theorem RL.cell{s:Seg}{cs:List Value}(h:RL S w [s] cs)(i:Nat)(hi:i<s.n):∃v,cs[i]?=some v/\RA S w (s.cell i) v/\v.oneCell'=true:=by
 cases s with
 |ints k m zs=>
  obtain⟨h1,rfl⟩:=h.fB
  have:i<zs.length:=by simpa[Seg.n,h1]using hi
  exact⟨.int k (zs.getD i 0),by simp[this],.v _,rfl⟩
 |bytes m bs=>
  obtain⟨h1,rfl⟩:=h.iZ
  have:i<bs.length:=by simpa[Seg.n,h1]using hi
  exact⟨.int .u8 (Bt (bs.getD i 0)),by simp[HL,this],.v _,rfl⟩
 |bools m bs=>
  obtain⟨h1,rfl⟩:=h.rY
  have:i<bs.length:=by simpa[Seg.n,h1]using hi
  exact⟨.bool (bs.getD i false),by simp[this],.v _,rfl⟩
 |gen m jq=>
  obtain⟨h1,g⟩:=h.gB
  exact g.at i (by simpa[Seg.n,h1]using hi)
def loc:List Seg->Nat->Option (List Seg×Seg×List Seg×Nat)
 |[],_=>none
 |s::l,b=>if b<s.n then some ([],s,l,b)else(loc l (b-s.n)).map fun p=>(s::p.1,p.2.1,p.2.2.1,p.2.2.2)
theorem Gc:∀{l:List Seg} {b:Nat} {p:List Seg} {s:Seg} {q:List Seg} {i:Nat},loc l b=some (p,s,q,i)->l=p++s::q/\b=dM p+i/\i<s.n
 |[],_,_,_,_,_,h=>by cases h
 |s::l,b,p,s',q,i,h=>by
  unfold loc at h
  by_cases hb:b<s.n
  ·rw[if_pos hb]at h
   cases h
   exact⟨rfl,by simp[dM],hb⟩
  ·rw[if_neg hb]at h
   cases hl:loc l (b-s.n)with
   |none=>rw[hl]at h;cases h
   |some x=>
    rw[hl]at h
    obtain⟨p',s2,q2,i2⟩:=x
    simp only[Option.map_some,Option.some.injEq,Prod.mk.injEq]at h
    obtain⟨rfl,rfl,rfl,rfl⟩:=h
    obtain⟨k1,k2,k3⟩:=Gc hl
    exact⟨by rw[k1];rfl,by simp[dM];omega,k3⟩
theorem RL.split:∀{p l:List Seg} {cs:List Value},RL S w (p++l) cs->∃c d,cs=c++d/\RL S w p c/\RL S w l d
 |[],_,cs,h=>⟨[],cs,rfl,.nil,h⟩
 |s::p,l,cs,h=>by
  obtain⟨c,d,rfl,h1,h2,_⟩:=RL.head (l:=p++l) h
  obtain⟨c2,d2,rfl,h3,h4⟩:=h2.split
  exact⟨c++c2,d2,by rw[List.append_assoc],by simpa using h1.append h3,h4⟩
theorem RL.found{l:List Seg}{cs:List Value}(h:RL S w l cs){b:Nat}{p:List Seg}{s:Seg}{q:List Seg}{i:Nat}(hl:loc l b=some (p,s,q,i)):
  ∃c d e,cs=c++(d++e)/\RL S w p c/\RL S w [s] d/\RL S w q e/\c.length+i=b/\i<s.n/\d.length=s.n:=by
 obtain⟨rfl,rfl,h3⟩:=Gc hl
 obtain⟨c,d,rfl,h4,h5⟩:=h.split
 obtain⟨d,e,rfl,h6,h7,h8⟩:=h5.head
 exact⟨c,d,e,rfl,h4,h6,h7,by rw[h4.len],h3,h8⟩
def cut:List Seg->Nat->Nat->Option (List Seg)
 |[],off,n=>if n=0 then some []else none
 |s::l,off,n=>
  if n=0 then some []else if s.n<=off then cut l (off-s.n) n else
  if off+n<=s.n then(if off=0/\n=s.n then some [s]else some [s.sub off n])else if off=0 then(cut l 0 (n-s.n)).map (s::·)else(cut l 0 (off+n-s.n)).map (s.sub off (s.n-off)::·)
theorem RL.cut:∀{l:List Seg} {cs:List Value} {off n:Nat} {m:List Seg},RL S w l cs->cut l off n=some m->RL S w m ((cs.drop off).take n)/\(off+n<=cs.length\/n=0)
 |[],cs,off,n,m,h,e=>by
  unfold Go.Proofs.YtegalalmamofdaaGreatDoor.cut at e
  by_cases hn:n=0
  ·rw[if_pos hn]at e;cases e;subst hn;simp;exact .nil
  ·rw[if_neg hn]at e;cases e
 |s::l,cs,off,n,m,h,e=>by
  unfold Go.Proofs.YtegalalmamofdaaGreatDoor.cut at e
  by_cases hn:n=0
  ·rw[if_pos hn]at e;cases e;subst hn;simp;exact .nil
  rw[if_neg hn]at e
  obtain⟨c,d,rfl,h1,h2,h3⟩:=h.head
  by_cases ho:s.n<=off
  ·rw[if_pos ho]at e
   obtain⟨k1,k2⟩:=h2.cut e
   refine⟨?_,by rcases k2 with k2|k2;left;simp;omega;exact .inr k2⟩
   rw[List.drop_append,List.drop_of_length_le (by omega),List.nil_append,h3];exact k1
  rw[if_neg ho]at e
  by_cases ha:off+n<=s.n
  ·rw[if_pos ha]at e
   have hx:((c++d).drop off).take n=(c.drop off).take n:=by
    rw[List.drop_append_of_le_length (by omega),List.take_append_of_le_length (by simp;omega)]
   rw[hx]
   refine⟨?_,.inl (by simp;omega)⟩
   by_cases hz:off=0/\n=s.n
   ·rw[if_pos hz]at e;cases e
    obtain⟨rfl,rfl⟩:=hz
    rw[List.drop_zero,List.take_of_length_le (by omega)];exact h1
   ·rw[if_neg hz]at e;cases e
    exact h1.sub off n ha
  rw[if_neg ha]at e
  have key:∀(m':List Seg),Go.Proofs.YtegalalmamofdaaGreatDoor.cut l 0 (off+n-s.n)=some m'->RL S w m' (d.take (off+n-s.n))/\off+n<=(c++d).length:=by
   intro m' he
   obtain⟨k1,k2⟩:=h2.cut he
   refine⟨by simpa using k1,?_⟩
   rcases k2 with k2|k2
   ·simp;omega
   ·omega
  have hx:((c++d).drop off).take n=c.drop off++d.take (off+n-s.n):=by
   rw[List.drop_append_of_le_length (by omega),List.take_append,List.take_of_length_le (by simp;omega)]
   congr 2
   simp;omega
  rw[hx]
  by_cases hz:off=0
  ·rw[if_pos hz]at e
   subst hz
   cases hq:Go.Proofs.YtegalalmamofdaaGreatDoor.cut l 0 (n-s.n)with
   |none=>rw[hq]at e;cases e
   |some m'=>
    rw[hq]at e
    cases e
    obtain⟨k1,k2⟩:=key m' (by rw[Nat.zero_add];exact hq)
    exact⟨by simpa using h1.append k1,.inl k2⟩
  ·rw[if_neg hz]at e
   cases hq:Go.Proofs.YtegalalmamofdaaGreatDoor.cut l 0 (off+n-s.n)with
   |none=>rw[hq]at e;cases e
   |some m'=>
    rw[hq]at e
    cases e
    obtain⟨k1,k2⟩:=key m' hq
    refine⟨?_,.inl k2⟩
    have h4:=h1.sub off (s.n-off) (by omega)
    rw[List.take_of_length_le (by simp;omega)]at h4
    simpa using h4.append k1
end
end
section
theorem wh(l:List UInt8):(HC l).all (·.oneCell')=true:=by
 rw[Array.all_eq_true_iff_forall_mem]
 intro v hv
 simp only[HC,List.mem_toArray,List.mem_map]at hv
 obtain⟨b,_,rfl⟩:=hv
 rfl
theorem aM.setRow(h:aM w g cs t)(cs':Array Value):aM (w.setRow g cs') g cs' t:=setRow_heap w g cs cs' t _ h
theorem aM.Gs{g g':Nat}(h:aM w g cs t)(cs':Array Value)(hne:g≠g'):aM (w.setRow g' cs') g cs t:=(setRow_other w g' g cs' hne).trans h
theorem kN(h:a.grownBy b r)(cs:Array Value)(hg:a.heap.size<=g\/r=some g):a.grownBy (b.setRow g cs) r:=
 ⟨h.os,h.tape,h.output,by rw[size_setRow];exact h.size,fun k hk hr=>(setRow_other b g k cs (by rcases hg with h1|h1<;>(intro e;subst e;first|omega|exact hr h1.symm))).trans (h.block k hk hr)⟩
theorem below_setRow(h:Below B a b)(cs:Array Value)(hg:B<=g):Below B a (b.setRow g cs):=
 h.trans ⟨rfl,rfl,rfl,by rw[size_setRow];exact Nat.le_refl _,fun k hk=>setRow_other b g k cs (by omega)⟩
theorem LH(h:a.grownBy b r)(i:Nat)(v:Value)(hg:a.heap.size<=g):a.grownBy (b.setCell ⟨g,i,none⟩ v) r:=
 ⟨h.os,h.tape,h.output,by simp[World.setCell];exact h.size,fun k hk hr=>(heap_setCell_other b ⟨g,i,none⟩ k v (by simp;omega)).trans (h.block k hk hr)⟩
def front(out:List UInt8)(n:Nat):List UInt8:=out.take n++List.replicate (32-n) 0
theorem FL(out:List UInt8):front out 0=List.replicate 32 0:=by simp[front]
theorem JJ(out:List UInt8)(h:out.length=32):front out 32=out:=by rw[front,List.take_of_length_le (by omega)];simp
theorem LG(out:List UInt8)(n:Nat)(h:out.length=32)(hn:n<=32):(front out n).length=32:=by simp[front];omega
theorem JK(out:List UInt8)(n:Nat)(h:out.length=32)(hn:n<32)(b:UInt8)(hb:out[n]?=some b):(front out n).set n b=front out (n+1):=by
 obtain⟨h1,h2⟩:=List.getElem?_eq_some_iff.1 hb
 subst h2
 have e:List.replicate (32-n) (0:UInt8)=0::List.replicate (32- (n+1)) 0:=by rw[show 32-n=(32- (n+1))+1 by omega];rfl
 unfold front
 rw[e]
 exact Zc out n (32- (n+1)) h1 (by omega) _ (by simp) 0
theorem ay2(x:W5)(i j:Nat)(hi:i<4)(hj:j<8):(outs x)[8*i+j]?=some (uy (mE (i+1) x).a j):=by
 unfold outs
 rw[List.getElem?_map,List.getElem?_range (by omega)]
 show some (bD7 x (8*i+j))=_
 unfold bD7
 rw[show(8*i+j) / 8=i by omega,show(8*i+j)%8=j by omega]
theorem Fe{g n:Nat}{out:List UInt8}(h:aM w g (HC (front out n)) t)(ho:out.length=32)(hn:n<32):∃v,w.cell? ⟨g,n,none⟩=some v:=
 ⟨_,(h.cell n).trans (ql _ n (by rw[LG _ _ ho (by omega)];exact hn))⟩
end
end Go.Proofs.YtegalalmamofdaaGreatDoor
