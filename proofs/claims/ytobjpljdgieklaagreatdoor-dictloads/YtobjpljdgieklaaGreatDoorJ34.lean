import Derived.Test.YtobjpljdgieklaaGreatDoorJ28
import Derived.LoopIn
import Derived.Test.YtobjpljdgieklaaGreatDoorJ21
set_option maxRecDepth 100000
set_option maxHeartbeats 8000000
namespace Go.Proofs.YtobjpljdgieklaaGreatDoor
namespace Fz
open Go.Proofs.YtobjpljdgieklaaGreatDoor.Nums Go.Proofs.YtobjpljdgieklaaGreatDoor.Fm Go.Proofs.YtobjpljdgieklaaGreatDoor Go.Proofs.YtobjpljdgieklaaGreatDoor.Pk Go.Proofs.YtobjpljdgieklaaGreatDoor.Ed Go.Proofs.YtobjpljdgieklaaGreatDoor.Lv
abbrev Mt:=ByteArray×Int×Int
def hit(xs:List Int)(d:Nat)(e:En):Option Mt:=if lv e.1 xs≤d then some (zAv e.1,e.2,(lv e.1 xs:Int))else none
def hits(xs:List Int)(d:Nat)(R:List En):List Mt:=R.filterMap (hit xs d)
theorem zCt(xs:List Int)(d:Nat)(R S:List En):hits xs d (R++S)=hits xs d R++hits xs d S:=List.filterMap_append
theorem hits_len(xs:List Int)(d:Nat)(R:List En):(hits xs d R).length≤R.length:=List.length_filterMap_le _ _
theorem zWq{xs:List Int}{d:Nat}{t:List Int}(hn:xs.length≤24)(h:zC4 xs.length d (rowL xs d t)=false):d<lv t xs:=by
 have h1:=(zIi hn).1 h xs.length (Nat.le_refl _);rw[zFj d t hn (Nat.le_refl _),rowF,List.take_length]at h1;omega
theorem zQ9{xs:List Int}{d:Nat}(hn:xs.length≤24):∀(r t:List Int),zC4 xs.length d (rowL xs d t)=false→d<lv (t++r) xs
 |[],t,h=>by rw[List.append_nil];exact zWq hn h
 |c::r,t,h=>by
  have h2:=(zWp c hn h).1;rw[zPx d t c hn]at h2;have:=zQ9 hn r (t++[c]) h2;rw[List.append_assoc]at this;exact this
theorem zV4{xs:List Int}{d:Nat}(hn:xs.length≤24){t:List Int}(h:zC4 xs.length d (rowL xs d t)=false)(sum:Int)(R:List En):hits xs d (ud t sum R)=[]:=by
 unfold hits ud;rw[List.filterMap_map];refine List.filterMap_eq_nil_iff.2 fun e _=>?_
 simp only[Function.comp,hit];rw[if_neg (by have:=zQ9 hn e.1 t h;omega)]
structure It where
 to:Nat
 lab:Int
 out:Int
 head:List Int
 wt:Int
def itE(D:List (List En))(i:It):List En:=ud (i.head++[i.lab]) (i.wt+i.out) (D[i.to]?.getD [])
def stE(D:List (List En))(l:List It):List En:=l.reverse.flatMap (itE D)
def itOf(head:List Int)(wt:Int)(a:Arc):It:=⟨a.to,a.label,a.out,head,wt⟩
def live(xs:List Int)(d:Nat)(head:List Int)(a:Arc):Bool:=zC4 xs.length d (rowL xs d (head++[a.label]))
def push(xs:List Int)(d:Nat)(head:List Int)(wt:Int)(l:List Arc):List It:=(l.reverse.filter (live xs d head)).map (itOf head wt)
theorem zP0(D:List (List En))(l:List It)(i:It):stE D (l++[i])=itE D i++stE D l:=by
 unfold stE;rw[List.reverse_append,List.flatMap_append];simp
theorem zI6(D:List (List En))(l m:List It):stE D (l++m)=stE D m++stE D l:=by
 unfold stE;rw[List.reverse_append,List.flatMap_append]
theorem zP1(D:List (List En))(xs:List Int)(d:Nat)(head:List Int)(wt:Int)(l:List Arc):stE D (push xs d head wt l)=(l.filter (live xs d head)).flatMap fun a=>ud (head++[a.label]) (wt+a.out) (D[a.to]?.getD []):=by
 unfold stE push;rw[←List.map_reverse,←List.filter_reverse,List.reverse_reverse,List.flatMap_map];rfl
theorem zMo{xs:List Int}{d:Nat}(hn:xs.length≤24)(D:List (List En))(head:List Int)(wt:Int):∀l:List Arc,hits xs d ((l.filter (live xs d head)).flatMap fun a=>ud (head++[a.label]) (wt+a.out) (D[a.to]?.getD []))=hits xs d (udA D head wt l)
 |[]=>rfl
 |a::l=>by
  have ih:=zMo (d:=d) hn D head wt l;have e:udA D head wt (a::l)=ud (head++[a.label]) (wt+a.out) (D[a.to]?.getD [])++udA D head wt l:=by simp[udA]
  rw[e,zCt,←ih];cases h:live xs d head a with
  |true=>rw[List.filter_cons,if_pos h,List.flatMap_cons,zCt]
  |false=>
   rw[List.filter_cons,if_neg (by rw[h];simp),zV4 hn h,List.nil_append]
theorem zUf{xs:List Int}{d:Nat}(hn:xs.length≤24)(D:List (List En))(its:List It)(head:List Int)(wt:Int)(l:List Arc):hits xs d (stE D (its++push xs d head wt l))=hits xs d (udA D head wt l)++hits xs d (stE D its):=by
 rw[zI6,zCt,zP1,zMo hn]
theorem zQb(D:List (List En))(xs:List Int)(d:Nat)(head:List Int)(wt:Int):∀l:List Arc,(stE D (push xs d head wt l)).length≤(udA D head wt l).length
 |[]=>by simp[push,stE]
 |a::l=>by
  have ih:=zQb D xs d head wt l;have e:udA D head wt (a::l)=ud (head++[a.label]) (wt+a.out) (D[a.to]?.getD [])++udA D head wt l:=by simp[udA]
  rw[zP1]at ih ⊢;rw[e,List.length_append];cases h:live xs d head a with
  |true=>rw[List.filter_cons,if_pos h,List.flatMap_cons,List.length_append];omega
  |false=>rw[List.filter_cons,if_neg (by rw[h];simp)];omega
def wgt(R:List En):Nat:=(R.map fun e=>e.1.length+1).sum
def itM(D:List (List En))(i:It):Nat:=wgt (D[i.to]?.getD [])
def stM(D:List (List En))(l:List It):Nat:=(l.map (itM D)).sum
theorem zI1(R S:List En):wgt (R++S)=wgt R+wgt S:=by simp[wgt]
theorem zTi(c o:Int):∀R:List En,wgt ((zAh o R).map (pre c))=wgt R+R.length
 |[]=>rfl
 |e::R=>by
  have ih:=zTi c o R;have e1:(zAh o (e::R)).map (pre c)=pre c (e.1,e.2+o)::(zAh o R).map (pre c):=rfl;have e2:∀(x:En) (L:List En),wgt (x::L)=x.1.length+1+wgt L:=fun x L=>by simp[wgt]
  rw[e1,e2,e2,ih];simp only[pre,List.length_cons];omega
theorem zPr(D:List (List En)):∀l:List Arc,wgt (flat (outs D l))=(l.map fun a=>wgt (D[a.to]?.getD [])).sum+(l.map fun a=>(D[a.to]?.getD []).length).sum
 |[]=>rfl
 |a::l=>by
  have e:flat (outs D (a::l))=(zAh a.out (D[a.to]?.getD [])).map (pre a.label)++flat (outs D l):=by simp[flat,outs]
  rw[e,zI1,zTi,zPr D l];simp only[List.map_cons,List.sum_cons];omega
theorem wgt_exp(D:List (List En))(s:St):wgt (exp D s)=(s.arcs.map fun a=>wgt (D[a.to]?.getD [])).sum+(exp D s).length:=by
 rw[zK4,exp,zI1,zPr];have:wgt (fins s)=if s.final then 1 else 0:=by unfold fins;cases s.final<;>rfl
 rw[this];omega
theorem zI5(D:List (List En))(l m:List It):stM D (l++m)=stM D l+stM D m:=by simp[stM]
theorem zFf(f:Arc→Nat)(p:Arc→Bool):∀l:List Arc,((l.filter p).map f).sum≤(l.map f).sum
 |[]=>by simp
 |a::l=>by
  have:=zFf f p l;rw[List.filter_cons]
  split<;>simp only[List.map_cons,List.sum_cons]<;>omega
theorem zUe{D:List (List En)}{b:List St}(hI:Fm.Inv D b){i:Nat}{s:St}(hi:b[i]?=some s)(xs:List Int)(d:Nat)(head:List Int)(wt:Int):stM D (push xs d head wt s.arcs)<wgt (D[i]?.getD []):=by
 obtain⟨h1,_,_⟩:=hI.row i s hi;have hne:=(hI.lv (exp D s) (List.mem_of_getElem? h1)).1;have hp:=List.length_pos_iff.2 hne;rw[h1,Option.getD_some,wgt_exp];have e:stM D (push xs d head wt s.arcs)=((s.arcs.reverse.filter (live xs d head)).map fun a=>wgt (D[a.to]?.getD [])).sum:=by
  unfold stM push;rw[List.map_map];rfl
 have h2:=zFf (fun a=>wgt (D[a.to]?.getD [])) (live xs d head) s.arcs.reverse;have h3:(s.arcs.reverse.map fun a=>wgt (D[a.to]?.getD [])).sum=(s.arcs.map fun a=>wgt (D[a.to]?.getD [])).sum:=by
  rw[List.map_reverse,List.sum_reverse]
 rw[h3]at h2;rw[e];omega
theorem zPz{D:List (List En)}(hlv:∀R∈D,R≠[]):∀{l:List It},(∀i∈l,i.to<D.length)→l.length≤(stE D l).length
 |[],_=>by simp
 |i::l,h=>by
  have ih:=zPz hlv (l:=l) fun j hj=>h j (by simp[hj])
  have e:stE D (i::l)=stE D l++itE D i:=by simp[stE]
  have hi:=h i (by simp);have:1≤(itE D i).length:=by
   unfold itE;rw[zHk,List.getElem?_eq_getElem hi,Option.getD_some];exact List.length_pos_iff.2 (hlv _ (List.getElem_mem hi))
  rw[e,List.length_append,List.length_cons];omega
theorem zRs{t:List Int}{r:Int}(h1:allR t=true)(h2:allR [r]=true):zAv (t++[r])=zAv t++zAv [r]:=by
 have h3:allR (t++[r])=true:=by
  unfold allR at h1 h2 ⊢;rw[List.all_append,h1,h2];rfl
 unfold zAv;rw[if_pos h1,if_pos h2,if_pos h3,List.flatMap_append];unfold strOfNums;rw[List.map_append];apply ByteArray.ext;simp
theorem zLz(t:List Int):(zAv t).size≤4*t.length:=by
 unfold zAv
 split
 · have:=zK3 t
   unfold strOfNums;show((t.flatMap wrI).map _).toArray.size≤_;rw[List.size_toArray,List.length_map];exact this
 · exact Nat.zero_le _
theorem zJl{α β:Type}{f g:α→Option β}:∀{l:List α},(∀x∈l,f x=g x)→l.filterMap f=l.filterMap g
 |[],_=>rfl
 |x::l,h=>by rw[List.filterMap_cons,List.filterMap_cons,h x (by simp),zJl (l:=l) fun y hy=>h y (by simp[hy])]
def zDf(xs:List Int)(d:Nat)(l:List Pr):List Mt:=l.filterMap fun p=>if lv (zCw p).1 xs≤d then some (p.1,p.2,(lv (zCw p).1 xs:Int))else none
theorem zV3{l:List Pr}(h:Wd l)(xs:List Int)(d:Nat):hits xs d (ents l)=zDf xs d l:=by
 unfold hits ents zDf;rw[List.filterMap_map];refine zJl fun p hp=>?_
 obtain⟨ys,hy,_⟩:=h p hp;simp only[Function.comp,hit];rw[zLx ⟨ys,hy⟩];rfl
end Fz
section
open Go.RowKit Nums Fm Pk Fz
attribute [local go_sem] Oper.semAt_some
def arcW(a:RArc):Value := .agg #[.int .i32 a.label,.int .i64 a.out,.int .i64 a.to]
def zArc:RArc:=⟨0,0,0⟩
structure BkAt(bx:Nat)(ad:Option Addr)(cap:Nat)(l:List RArc)(W:World):Prop where
 box:W.cell? ⟨bx,0,none⟩=some (.slice ad l.length cap)
 row:∃E,ArcsAt E W (.slice ad l.length cap) l
theorem zNx(ad:Option Addr)(n cap:Nat)(w:World):Calls Tryz.prog 114 #[.slice ad n cap] w fun e w'=>e = .returned (.func (.func 152) #[] #[.pointer (some ⟨w.heap.size,0,none⟩)])∧w'=w.alloc (.cells #[.slice ad n cap] 89):=by
 go_enter Tryz.func114,Tryz.ntmps114;go_wp2;go_ret;exact⟨rfl,rfl⟩
theorem back_seq(bx:Nat)(ad:Option Addr)(cap:Nat)(l:List RArc)(hl:l.length≤9223372036854775807):
 SeqB 152 #[.pointer (some ⟨bx,0,none⟩)] (fun k=>#[.int .i64 ((l.length-1-k:Nat):Int),arcW (l.getD (l.length-1-k) zArc)]) l.length (BkAt bx ad cap l):=by
 intro yl J W hT hy h0;have hb0:=(hT 0 W h0).box;obtain⟨n,hn⟩:∃n,l.length=n:=⟨_,rfl⟩;have HT:Hid (∀k W,J k W→BkAt bx ad cap l W):=hT;have HY:Hid (∀k W,k<n→J k W→YieldAt Fence.wide 0 Tryz.prog yl #[.int .i64 ((n-1-k:Nat):Int),arcW (l.getD (n-1-k) zArc)] W fun e W'=>e = .returned (.bool true)∧J (k+1) W'):=by
  have:=hy;rw[hn]at this;exact this
 have HN:Hid (l.length=n):=hn;rw[hn]at hb0 hl ⊢;clear hT hy hn;have hdd:∀k:Nat,(Fence.wide.depth.isSome=true→1≤k):=fun k h=>by simp[Fence.wide]at h
 refine(callsIn_wide (n:=1)).1 ?_;refine callsIn_of_wp Tryz.func152 rfl trivial ?_ rfl;simp only[Tryz.ntmps152,List.size_toArray,List.length_cons,List.length_nil,Nat.reduceAdd,Nat.reduceSub,Array.replicate_succ,Array.replicate_zero,List.push_toArray,List.append_toArray,List.nil_append,List.cons_append];have hw1:IntKind.i64.wrap ((n:Int)-1)=(n:Int)-1:=by rw[IntKind.wrap_i64];omega
 gi_wp2
 gi_loopw [3] (fun v wr=>∃k:Nat,k≤n∧v = .int .i64 ((n:Int)-1-(k:Int))∧J k wr) (fun v _=>(intOf v+1).toNat)
 case atStart=>exact⟨0,Nat.zero_le _,by first|rfl|(congr 1;omega)|simp,h0⟩
 case round=>
  obtain⟨k,hk,rfl,hJ⟩:=hrel;by_cases hkn:k<n
  · obtain⟨m,hm⟩:∃m,m=n-1-k:=⟨_,rfl⟩
    (have hmi:(n:Int)-1-(k:Int)=(m:Int):=by omega);have hB:=HT.out k wr hJ;have hbx:=hB.box;obtain⟨E,hrow⟩:=hB.row;rw[HN.out]at hbx hrow;obtain⟨x,hx⟩:∃x,l[m]?=some x:=⟨_,List.getElem?_eq_getElem (by have:=HN.out;omega)⟩;obtain⟨g,off,rfl,_,c0,c1,c2⟩:=hrow.at hx;obtain⟨fn,tmps,assign,body,hyy,hRr⟩:=HY.out k wr hkn hJ;rw[←hm,List.getD_eq_getElem?_getD,hx,Option.getD_some]at hyy;simp only[arcW]at hyy;rw[hmi];(have hm0:(m:Int)<(n:Int):=by omega);(have hw2:IntKind.i64.wrap ((m:Int)-1)=(m:Int)-1:=by rw[IntKind.wrap_i64];omega);(have HM:Hid (m+k+1=n):=by show m+k+1=n;omega);clear hB hrow hmi hm hx
    gi_wp2
    refine hRr.mono ?_;rintro e W3 ⟨rfl,hJ3⟩
    gi_wp2
    go_roundw
    (case rel=>exact⟨k+1,by omega,by have:=HM.out;congr 1;omega,hJ3⟩);case measure=>first|(simp[intOf];done)|(simp[intOf];omega)
  · have hkn2:k=n:=by omega
    (have hneg:(n:Int)-1-(k:Int)<0:=by omega);rw[hkn2]at hJ;(have hz:(n:Int)-1-(k:Int) = -1:=by omega);rw[hz];clear hneg hz hkn hk
    gi_wp2
    go_end0
    exact⟨⟨_,rfl⟩,hJ⟩
theorem zMw(t:List Int)(r:Int)(w:World)(hT:Tabs w)(h1:allR t=true)(h2:allR [r]=true)(ht:t.length≤24):Calls Tryz.prog 118 #[.string (zAv t),.int .i32 r] w fun e w'=>e = .returned (.string (zAv (t++[r])))∧Below w.heap.size w w':=by
 have HE:Hid (zAv (t++[r])=zAv t++zAv [r]):=zRs h1 h2;have hsz1:=zLz t;have hsz2:=zLz [r];obtain⟨tx,htx⟩:∃tx,zAv t=tx:=⟨_,rfl⟩;rw[htx]at HE hsz1 ⊢;have HC:Hid (∀T,Calls Tryz.prog 153 #[.slice (some ⟨w.heap.size,0,none⟩) 1 1] (w.alloc (.cells #[.int .i32 r] T)) fun e w'=>e = .returned (.tuple #[.string (zAv [r]),.bool (allR [r])])∧Below (w.alloc (.cells #[.int .i32 r] T)).heap.size (w.alloc (.cells #[.int .i32 r] T)) w'):=fun T=>by
  have hb:Below w.heap.size w (w.alloc (.cells #[.int .i32 r] T)):=(Below.refl _ w).alloc (Nat.le_refl _) _;refine zLg _ [r] _ (hT.below hb) ⟨some ⟨w.heap.size,0,none⟩,1,rfl,fun _=>⟨w.heap.size,0,rfl,fun i hi=>?_⟩⟩ (by simp);have:i=0:=by simp at hi;omega
  subst this;simp
 obtain⟨tr,htr⟩:∃tr,zAv [r]=tr:=⟨_,rfl⟩;rw[htr]at HE HC hsz2;have hsz:¬9223372036854775807<tx.size+tr.size:=by simp at hsz2;omega
 clear htx htr h1 hsz1 hsz2 ht;go_enter Tryz.func118,Tryz.ntmps118;go_wp2_with (go_at_call 153;refine(HC.out _).mono ?_;rintro e w1 ⟨rfl,hb1⟩);go_ret;exact⟨by rw[HE.out];rfl,((Below.refl _ w).alloc (Nat.le_refl _) _).trans (hb1.mono (by simp))⟩
end
section
open Go.RowKit Nums Ed Lv
def bldL(P:Program)(v:Value)(w:World):Result Value:=(Instr.build 178 #[(0,v)]).run P w
theorem zM3(ρ:Operand→Value)(x:Operand)(dst:Option Tmp)(ty:TypeId)(pos:String)(af:Array Edge)(g:Option (Nat×Bool))(w:World):(execOp ρ ⟨dst,.build 178 #[(0,x)],ty,pos,af,g⟩).run Tryz.prog w=(bldL Tryz.prog (ρ x) w).andThen (fun v w' => .ok (.value v) w'):=by
 simp only[execOp,Sem.run_bind,bldL,Sem.run_pure,List.map_toArray,List.map_cons,List.map_nil]
def levV(v:Value)(bs:List Nat):Value := .agg (levC v bs)
theorem bldL_at(ad:Option Addr)(n c:Nat)(w:World):bldL Tryz.prog (.slice ad n c) w = .ok (levV (.slice ad n c) zeros) w:=by kernel_rfl
theorem zSo(ρ:Operand→Value)(x:Operand)(dst:Option Tmp)(ty:TypeId)(pos:String)(af:Array Edge)(g:Option (Nat×Bool))(w:World):(execOp ρ ⟨dst,.box 178 x,ty,pos,af,g⟩).run Tryz.prog w = .ok (.value (.pointer (some ⟨w.heap.size,0,none⟩))) (w.alloc (.cells (celV (ρ x)) 178)):=by
 simp only[execOp,Sem.run_bind,Instr.box,newVar,newRow];rfl
theorem zSg(v:Value)(bs:List Nat):celV (levV v bs)=levC v bs:=rfl
def rightB(l:List UInt8)(e:Int):Bool:=zAq l&&decide (0≤e)&&decide (e≤3)
theorem zN2{l:List UInt8}(h:zAq l=true):∃xs,rs l=some xs∧1≤xs.length∧xs.length≤24:=by
 unfold zAq at h;cases e:rs l with
 |none=>rw[e]at h;cases h
 |some xs=>rw[e]at h;simp at h;exact⟨xs,rfl,by omega,by omega⟩
def zIa(d k:Nat):List Nat:=mk fun j=>if j<k then d+1 else 0
theorem zSp(d:Nat):zIa d 0=zeros:=by rw[zJw];exact zBf fun j _=>by simp
theorem zWs(n d:Nat):zIa d (n+1)=zE9 n d:=zBf fun j _=>by
 unfold dd;by_cases h:j≤n
 · rw[if_pos h,if_pos (by omega)]
 · rw[if_neg h,if_neg (by omega)]
theorem zSq(d:Nat){k:Nat}(h:k<25):(zIa d k).set k (d+1)=zIa d (k+1):=by
 rw[zIa,zMk _ _ h];refine zBf fun j _=>?_
 by_cases h1:j=k
 · subst h1;simp
 · rw[if_neg h1]
   by_cases h2:j<k
   · rw[if_pos h2,if_pos (by omega)]
   · rw[if_neg h2,if_neg (by omega)]
theorem lev_set{w:World}{p k x:Nat}{v:Value}{bs:List Nat}{t:TypeId}{f:Nat×Nat}(h:w.heap[p]?=some (.cells (levC v bs) t f)):(w.setCell ⟨p,1+k,none⟩ (bv x)).heap[p]?=some (.cells (levC v (bs.set k x)) t f):=by
 simp only[World.setCell,Array.getElem?_modify,h];simp[levC,List.map_set,Nat.add_comm 1 k]
def zXs(w w':World)(l:List UInt8)(e:Int)(v:Value)(c:Int):Prop:=
 Below w.heap.size w w'∧((rightB l e=false∧v = .pointer none∧c=110)∨(rightB l e=true∧c=0∧∃p xs d,v = .pointer (some ⟨p,0,none⟩)∧w.heap.size≤p∧rs l=some xs∧e=(d:Nat)∧LevAt w' p xs d))
theorem zXo(s:ByteArray)(xs:List Int)(w:World)(ht:Tabs w)(hm:s.size≤9223372036854775807)(hroom:Room s.data.toList)(hx:rs s.data.toList=some xs):
 Calls Tryz.prog 71 #[.string s] w fun e w'=>∃v,e = .returned (.tuple #[v,.bool true])∧Below w.heap.size w w'∧Made w.heap.size w' v xs:=by
 refine(zF4 s w ht hm hroom).mono ?_;rintro e w' ⟨v,hb,⟨hno,_,_⟩|⟨ys,hys,rfl,hmade⟩⟩
 · rw[hno]at hx;cases hx
 · obtain rfl:ys=xs:=Option.some.inj (hys.symm.trans hx)
   exact⟨v,rfl,hb,hmade⟩
attribute [local go_sem ↓] zM3 zSo
attribute [local go_sem] zSg
theorem New_any(s:ByteArray)(e:Int)(w:World)(ht:Tabs w)(hm:s.size≤9223372036854775807):
 Calls Tryz.prog 73 #[.string s,.int .i64 e] w fun x w'=>∃v c,x = .returned (.tuple #[v,.int .i64 c])∧zXs w w' s.data.toList e v c:=by
 by_cases hr:rightB s.data.toList e=true
 · have HR:Hid (rightB s.data.toList e=true):=hr
   have hh:=hr;simp only[rightB,Bool.and_eq_true,decide_eq_true_eq]at hh;obtain⟨⟨hw,h0⟩,h3⟩:=hh;have HWD:Hid (zAq s.data.toList=true):=hw;obtain⟨xs,hxs,hx1,hx24⟩:=zN2 hw;have HXS:Hid (rs s.data.toList=some xs):=hxs;have HROOM:Hid (Room s.data.toList):=zCf hxs (by omega);obtain⟨d,rfl⟩:∃d:Nat,e=(d:Int):=⟨e.toNat,by omega⟩;clear hr hw hxs;go_enter Tryz.func73,Tryz.ntmps73;(go_upto_region 3 with(go_at_call 56;refine(zCj s _ ht hm).mono ?_;rintro e w1 ⟨rfl,hw1⟩;rw[HWD.out]));(have hb1:Below w.heap.size w w1:=by obtain⟨n,rfl⟩:=hw1;exact below_drewN (Below.refl _ _) n);have ht1:Tabs w1:=ht.below hb1;clear hw1;(go_upto_region 4 with(go_at_call 71;refine(zXo s xs _ ht1 hm HROOM.out HXS.out).mono ?_;rintro e w2 ⟨v,rfl,hb2,hmade⟩));have hb12:Below w.heap.size w w2:=hb1.trans (hb2.mono hb1.size);have HX2:Hid (RunesAt w2.heap.size w2 v xs):=hmade.runesE;obtain⟨ad,cap,rfl⟩:=HX2.out.form;have hbl:=bldL_at ad xs.length cap w2;have HP3:Hid ((w2.alloc (.cells (levC (.slice ad xs.length cap) zeros) 178)).heap[w2.heap.size]?=some (.cells (levC (.slice ad xs.length cap) zeros) 178 (0,0))):=zBn _ _;have HB3:Hid (Below w.heap.size w (w2.alloc (.cells (levC (.slice ad xs.length cap) zeros) 178))):=hb12.alloc hb12.size _;have HBB:Hid (Below w2.heap.size w2 (w2.alloc (.cells (levC (.slice ad xs.length cap) zeros) 178))):=(Below.refl _ _).alloc (Nat.le_refl _) _;have HX3:Hid (RunesAt w2.heap.size (w2.alloc (.cells (levC (.slice ad xs.length cap) zeros) 178)) (.slice ad xs.length cap) xs):=HX2.out.below HBB.out;have HBS:Hid (w.heap.size≤w2.heap.size):=hb12.size;clear hmade hb1 ht1 hb2 hb12 HX2 HBB;obtain⟨N,hN⟩:∃N,N=xs.length+1:=⟨_,rfl⟩;have HN:Hid (N=xs.length+1):=hN;(have hwN:IntKind.i64.wrap ((xs.length:Int)+1)=(N:Int):=by rw[IntKind.wrap_i64];omega);(have hwd:IntKind.u8.wrap (d:Int)=(d:Int):=by rw[IntKind.wrap_u8];omega);(have hwd1:IntKind.u8.wrap ((d:Int)+1)=(d:Int)+1:=by rw[IntKind.wrap_u8];omega);clear hN;go_wp2_with fail
   go_loopw [32] (fun v wr=>∃k:Nat,v = .int .i64 k∧k≤N∧wr.heap[w2.heap.size]?=some (.cells (levC (.slice ad xs.length cap) (zIa d k)) 178 (0,0))∧RunesAt w2.heap.size wr (.slice ad xs.length cap) xs∧Below w.heap.size w wr) (fun v _=>N-(intOf v).toNat)
   case atStart=>exact⟨0,rfl,Nat.zero_le _,by rw[zSp];exact HP3.out,HX3.out,HB3.out⟩
   case round=>
    clear HP3 HX3 HB3;obtain⟨k,rfl,hk,hP,hX,hB⟩:=hrel;have HP:Hid (wr.heap[w2.heap.size]?=some (.cells (levC (.slice ad xs.length cap) (zIa d k)) 178 (0,0))):=hP;have HX:Hid (RunesAt w2.heap.size wr (.slice ad xs.length cap) xs):=hX;have HB:Hid (Below w.heap.size w wr):=hB;have hwr:w2.heap.size<wr.heap.size:=(Array.getElem?_eq_some_iff.1 hP).1;by_cases hk8:k<N
    · have hk25:k<25:=by have:=HN.out;omega
      have hcell:wr.cell? ⟨w2.heap.size,1+k,none⟩=some (bv ((zIa d k).getD k 0)):=by
       have:=zFq hP k (bv ((zIa d k).getD k 0)) (by rw[List.getElem?_map,zIa,zHw _ hk25,zDo _ hk25];rfl);simpa using this
      (have hfz:wr.frozen? ⟨w2.heap.size,1+k,none⟩=false:=by simp[World.frozen?,hP]);obtain⟨y,hy⟩:∃y,(zIa d k).getD k 0=y:=⟨_,rfl⟩;rw[hy]at hcell;clear hP hX hB hy hbl;go_wp2_with fail
      go_roundw
      case rel=>
       refine⟨k+1,by go_num,by omega,?_,HX.out.below ((Below.refl w2.heap.size wr).setCell (p:=⟨w2.heap.size,1+k,none⟩) (Nat.le_refl _) _),HB.out.setCell HBS.out _⟩;rw[←zSq _ hk25];exact lev_set HP.out
      case measure=>simp[intOf];omega
    · obtain rfl:k=N:=by omega
      have HL:Hid (LevAt wr w2.heap.size xs d):=by
       refine⟨hx24,by omega,ad,cap,?_,hX.mono (by omega)⟩;rw[HN.out,zWs]at hP;exact hP
      clear hP hX hB HP HX;go_wp2_with fail;go_ret2;exact⟨_,_,rfl,HB.out,.inr ⟨HR.out,rfl,_,xs,d,rfl,HBS.out,HXS.out,rfl,HL.out⟩⟩
 · have HR:Hid (rightB s.data.toList e=false):=by unfold Hid;simpa using hr
   clear hr;by_cases hw:zAq s.data.toList=true
   · have HWD:Hid (zAq s.data.toList=true):=hw
     have hne:¬(0≤e∧e≤3):=by
      intro hh;have:=HR.out;simp[rightB,hw,hh]at this
     clear hw;by_cases h0:e<0
     · go_enter Tryz.func73,Tryz.ntmps73
       go_wp2_with (go_at_call 56;refine(zCj s _ ht hm).mono ?_;rintro e w1 ⟨rfl,hw1⟩;rw[HWD.out]);go_ret2;exact⟨_,_,rfl,by obtain⟨n,rfl⟩:=hw1;exact below_drewN (Below.refl _ _) n,.inl ⟨HR.out,rfl,rfl⟩⟩
     · have h3:3<e:=by omega
       go_enter Tryz.func73,Tryz.ntmps73;go_wp2_with (go_at_call 56;refine(zCj s _ ht hm).mono ?_;rintro e w1 ⟨rfl,hw1⟩;rw[HWD.out]);go_ret2;exact⟨_,_,rfl,by obtain⟨n,rfl⟩:=hw1;exact below_drewN (Below.refl _ _) n,.inl ⟨HR.out,rfl,rfl⟩⟩
   · have HWD:Hid (zAq s.data.toList=false):=by unfold Hid;simpa using hw
     clear hw;go_enter Tryz.func73,Tryz.ntmps73;go_wp2_with (go_at_call 56;refine(zCj s _ ht hm).mono ?_;rintro e w1 ⟨rfl,hw1⟩;rw[HWD.out]);go_ret2;exact⟨_,_,rfl,by obtain⟨n,rfl⟩:=hw1;exact below_drewN (Below.refl _ _) n,.inl ⟨HR.out,rfl,rfl⟩⟩
attribute [local go_sem ↓] zA9 zCl zAy zA8
attribute [local go_sem] zEj
theorem Dist_any(p:Nat)(xs:List Int)(d:Nat)(s:List Nat)(w:World)(h:LevAt w p xs d)(hs:s.length=25):
 Calls Tryz.prog 113 #[.pointer (some ⟨p,0,none⟩),rV s] w fun e w'=>e = .returned (.tuple #[.int .i64 (zNb xs.length d s:Int),.bool (zIw xs.length d s)])∧Below w.heap.size w w':=by
 obtain⟨hn,hd,ad,cap,hp,hr⟩:=h;have hpl:p<w.heap.size:=(Array.getElem?_eq_some_iff.1 hp).1;obtain⟨w2,hw2⟩:∃w2,w.alloc (.cells (rC s) 137)=w2:=⟨_,rfl⟩;have A2:RAt w2 w.heap.size s:=hw2▸RAt.new w _;have B2:Below w.heap.size w w2:=hw2▸(Below.refl _ w).alloc (Nat.le_refl _) _;have HW:Hid (w.alloc (.cells (rC s) 137)=w2):=hw2;have hp2:=(B2.block p hpl).trans hp;have hc1:=zQt hp2;have hc2:=lev_dead hp2 (j:=xs.length) (by omega);rw[dd,if_pos (Nat.le_refl _)]at hc2;have hc3:=A2.cell (i:=xs.length) (by omega);obtain⟨y,hy⟩:∃y,s.getD xs.length 0=y:=⟨_,rfl⟩;rw[hy]at hc3;have HB2:Hid (Below w.heap.size w w2):=B2;have HDN:Hid (zNb xs.length d s=if y≤d then y else 0):=by unfold Hid zNb;rw[hy]
 have HDB:Hid (zIw xs.length d s=decide (y≤d)):=by unfold Hid zIw;rw[hy]
 have hx25:(xs.length:Int)<25:=by omega
 have hcast:((d+1:Nat):Int)=(d:Int)+1:=by omega
 unfold bv at hc2 hc3;rw[hcast]at hc2;clear hw2 A2 B2 hp hr hp2 hy hcast;by_cases hyd:y≤d
 · have hcmp:¬((d:Int)+1≤(y:Int)):=by omega
   go_enter Tryz.func113,Tryz.ntmps113;(go_upto_region 1 with fail);rw[HW.out];(go_upto_region 2 with fail);go_quiet (fail);go_wp2_with fail;go_ret2;exact⟨by rw[HDN.out,HDB.out,if_pos hyd,decide_eq_true hyd];rfl,below_drewN HB2.out _⟩
 · have hcmp:(d:Int)+1≤(y:Int):=by omega
   go_enter Tryz.func113,Tryz.ntmps113;(go_upto_region 1 with fail);rw[HW.out];(go_upto_region 2 with fail);go_quiet (fail);go_wp2_with fail;go_ret2;exact⟨by rw[HDN.out,HDB.out,if_neg hyd,decide_eq_false hyd];rfl,below_drewN HB2.out _⟩
theorem zXv(p:Nat)(xs:List Int)(d:Nat)(s:List Nat)(w:World)(h:LevAt w p xs d)(hs:s.length=25):
 Calls Tryz.prog 116 #[.pointer (some ⟨p,0,none⟩),rV s] w fun e w'=>e = .returned (.bool (zC4 xs.length d s))∧Below w.heap.size w w':=by
 have HL:Hid (LevAt w p xs d):=h;obtain⟨hn,hd,ad,cap,hp,hr⟩:=h;have hpl:p<w.heap.size:=(Array.getElem?_eq_some_iff.1 hp).1;obtain⟨w2,hw2⟩:∃w2,w.alloc (.cells (rC s) 137)=w2:=⟨_,rfl⟩;have A2:Hid (RAt w2 w.heap.size s):=hw2▸RAt.new w _;have B2:Hid (Below w.heap.size w w2):=hw2▸(Below.refl _ w).alloc (Nat.le_refl _) _;have HW:Hid (w.alloc (.cells (rC s) 137)=w2):=hw2;have L2:Hid (LevAt w2 p xs d):=HL.out.below B2.out;have hsz:w.heap.size<w2.heap.size:=A2.out.lt;have HPW:Hid (∀W,Below w.heap.size w W→zGi Tryz.prog (.pointer (some ⟨p,1,none⟩)) W = .ok (rV (zE9 xs.length d)) W):=fun W hW=>zBm (zFq ((hW.block p hpl).trans hp)) (zEc xs.length d)
 clear hw2 hp hr;go_enter Tryz.func116,Tryz.ntmps116;go_upto_region 1 with fail
 rw[HW.out];have hS0:zGi Tryz.prog (.pointer (some ⟨p,1,none⟩)) w2.drew = .ok (rV (zE9 xs.length d)) w2.drew∧zGi Tryz.prog (.pointer (some ⟨w.heap.size,0,none⟩)) w2.drew = .ok (rV s) w2.drew:=⟨HPW.out _ B2.out.drew,zBm (RAt.range (w:=w2.drew) A2.out) hs⟩;refine zAf (S:=fun W'=>zGi Tryz.prog (.pointer (some ⟨p,1,none⟩)) W' = .ok (rV (zE9 xs.length d)) W'∧zGi Tryz.prog (.pointer (some ⟨w.heap.size,0,none⟩)) W' = .ok (rV s) W') 9 rfl zAn hS0 (fun _=>?_);refine tq id 0 5 ?_;simp only[sZa,sZb,sZc];refine tk (i:=1) (v:=rV s) 6 rfl rfl (by kernel_rfl) (fun w hSw=>by(have h2:=hSw.2;exact(zAy _ (.tmp 3) _ _ _ _ _ _).trans (congrArg (fun z=>Result.andThen z (fun v w'=>Result.ok (Next.value v) w')) h2))) ?_;simp only[sZa,sZb,sZc];refine tq2 id 3 8 4 9 ?_;simp only[sZa,sZb,sZc];refine tq id 5 10 ?_;simp only[sZa,sZb,sZc];refine tk (i:=6) (v:=rV (zE9 xs.length d)) 11 rfl rfl (by kernel_rfl) (fun w hSw=>by(have h2:=hSw.1;exact(zAy _ (.tmp 10) _ _ _ _ _ _).trans (congrArg (fun z=>Result.andThen z (fun v w'=>Result.ok (Next.value v) w')) h2))) ?_;simp only[sZa,sZb,sZc];refine oc 2 w2.drew 7 119 #[.pointer (some ⟨p,0,none⟩),rV s] ?_;refine(zLa p xs d s w2.drew (L2.out.below (Below.refl _ w2).drew) hs).mono ?_;rintro e w3 ⟨rfl,hb3⟩;have B3:Below w.heap.size w w3:=B2.out.drew.trans (hb3.mono (by show w.heap.size≤w2.heap.size;omega));have hS3:zGi Tryz.prog (.pointer (some ⟨p,1,none⟩)) w3 = .ok (rV (zE9 xs.length d)) w3∧zGi Tryz.prog (.pointer (some ⟨w.heap.size,0,none⟩)) w3 = .ok (rV s) w3:=⟨HPW.out _ B3,zBm (RAt.range (RAt.below (w:=w2.drew) (w':=w3) (B:=w2.heap.size) A2.out (by omega) hb3)) hs⟩;refine⟨_,rfl,hS3,fun _=>?_⟩;simp only[sZa,sZb,sZc];refine zAo (i:=7) (v := .bool (zC4 xs.length d s)) (w':=w3) 12 (by kernel_rfl) rfl rfl (by rfl) ?_ hS3 (fun _=>?_)
 · have hb1:∀x∈cutL xs.length d s,x<256:=zUx fun j _=>by have:=zWv xs.length d s j;omega
   (have hb2:∀x∈zE9 xs.length d,x<256:=zUx fun j _=>by have:=dd_le xs.length d j;omega);have hq:=neq_row (zDs xs.length d s) (zEc xs.length d) hb1 hb2 w3;have hg:=zV8 .neq (.tmp 7) (.tmp 11) (cutL xs.length d s) (zE9 xs.length d) w3;go_simp;rw[zC4,Bool.not_not]
 simp only[sZa,sZb,sZc];refine zAo (i:=8) (v := .bool (zC4 xs.length d s)) (w':=w3) 4 (by kernel_rfl) rfl rfl (by rfl) (by kernel_rfl) hS3 (fun _=>?_);simp only[sZa,sZb,sZc];refine wpAnyH_done (by kernel_rfl) ?_ _;clear hS0 hS3;go_wp2_with fail;go_ret;exact⟨rfl,B3⟩
end
section
open Go.RowKit Nums Ed Lv
def bldR(P:Program)(v:Value)(w:World):Result Value:=(Instr.build 137 #[(0,v)]).run P w
theorem zM2(ρ:Operand→Value)(x:Operand)(dst:Option Tmp)(ty:TypeId)(pos:String)(af:Array Edge)(g:Option (Nat×Bool))(w:World):(execOp ρ ⟨dst,.build 137 #[(0,x)],ty,pos,af,g⟩).run Tryz.prog w=(bldR Tryz.prog (ρ x) w).andThen (fun v w' => .ok (.value v) w'):=by
 simp only[execOp,Sem.run_bind,bldR,Sem.run_pure,List.map_toArray,List.map_cons,List.map_nil]
theorem bldR_at(n:Nat)(w:World):bldR Tryz.prog (bv n) w = .ok (rV (zeros.set 0 n)) w:=by kernel_rfl
theorem zeros_nx(xs:List Int)(r:Int)(c:List Nat):zeros.set 0 (nx xs r c 0)=nxK xs r c 0:=by
 rw[zJw,zMk _ _ (by decide),nxK];refine zBf fun j _=>?_
 by_cases h:j=0
 · subst h;simp
 · rw[if_neg h,if_neg (by omega)]
attribute [local go_sem ↓] zA9 zCl zAy zA8 zM2 zKb
attribute [local go_sem] zEj
theorem Step_any(p:Nat)(xs:List Int)(d:Nat)(s:List Nat)(r:Int)(w:World)(h:LevAt w p xs d)(hs:s.length=25):
 Calls Tryz.prog 115 #[.pointer (some ⟨p,0,none⟩),rV s,.int .i32 r] w fun e w'=>e = .returned (rV (stepL xs d s r))∧Below w.heap.size w w':=by
 have hn:=h.len;have hd:=h.few;obtain⟨w2,hw2⟩:∃w2,(w.alloc (.cells (rC s) 137)).alloc (.cells (rC zeros) 137)=w2:=⟨_,rfl⟩;have A2:Hid (RAt w2 w.heap.size s):=hw2▸(RAt.new w _).old _;have C2:Hid (RAt w2 (w.heap.size+1) zeros):=by
  have:=RAt.new (w.alloc (.cells (rC s) 137)) zeros;rw[zBc]at this;exact hw2▸this
 have B2:Hid (Below w.heap.size w w2):=hw2▸((Below.refl _ w).alloc (Nat.le_refl _) _).alloc (by simp) _;have HW:Hid ((w.alloc (.cells (rC s) 137)).alloc (.cells (rC zeros) 137)=w2):=hw2;have L2:Hid (LevAt w2 p xs d):=h.below B2.out;have HL:Hid (LevAt w p xs d):=h;have hld:=zBm A2.out.range hs;have hs2:w.heap.size+1<w2.heap.size:=C2.out.lt;clear hw2 h;go_enter Tryz.func115,Tryz.ntmps115;go_wp2_with fail;rw[HW.out,hld];clear HW hld;go_wp2_with (go_at_call 119;refine(zLa p xs d _ _ L2.out hs).mono ?_;rintro e w3 ⟨rfl,hb3⟩);obtain⟨c,hc⟩:∃c,cutL xs.length d s=c:=⟨_,rfl⟩;have hcl:c.length=25:=by rw[←hc,zDs]
 have HC:Hid (cutL xs.length d s=c):=hc;have HCB:Hid (∀j,c.getD j 0≤d+1):=by unfold Hid;rw[←hc];exact zOo _ _ _
 rw[hc];have A3:RAt w3 w.heap.size s:=A2.out.below (by omega) hb3;have hst:=zCo A3 hs hcl;obtain⟨P4,O4⟩:=A3.put (ys:=c) (by rw[hcl,hs]);obtain⟨w4,hw4⟩:∃w4,setR w3 w.heap.size c=w4:=⟨_,rfl⟩;rw[hw4]at hst P4 O4;have hs3:=hb3.size;have hs4:=O4.size;have B4:Hid (Below w.heap.size w w4):=O4.below (B2.out.trans (hb3.mono (by omega))) (Nat.le_refl _);have R4:Hid (RAt w4 (w.heap.size+1) zeros):=(C2.out.below (by omega) hb3).same (O4.block _ (by omega));have HP4:Hid (RAt w4 w.heap.size c):=P4;have c0:=P4.cell (i:=0) (by omega);have L4:=HL.out.below B4.out;obtain⟨_,_,ad,cap,hp,hr⟩:=L4;have hlw:=zQt hp;have HRN:Hid (RunesAt w4.heap.size w4 (.slice ad xs.length cap) xs):=hr;obtain⟨x0,hx0⟩:∃x0,c.getD 0 0=x0:=⟨_,rfl⟩;obtain⟨n0,hn0⟩:∃n0,nx xs r c 0=n0:=⟨_,rfl⟩;have hx1:x0≤4:=by have:=HCB.out 0;omega
 have hw0:(n0:Int)=(x0:Int)+1:=by rw[←hn0,nx,hx0];omega
 rw[hx0]at c0;have hbl:=bldR_at n0 w4;unfold bv at hbl;rw[hw0]at hbl;have HZ:Hid (zeros.set 0 n0=nxK xs r c 0):=by unfold Hid;rw[←hn0];exact zeros_nx _ _ _
 rw[HZ.out]at hbl;have N5:Hid (RAt (w4.alloc (.cells (rC zeros) 137)) w4.heap.size zeros):=RAt.new _ _;have hst5:=zCo N5.out zBh (zGf xs r c 0);obtain⟨P6,O6⟩:=N5.out.put (ys:=nxK xs r c 0) (by rw[zGf,zBh]);obtain⟨w6,hw6⟩:∃w6,setR (w4.alloc (.cells (rC zeros) 137)) w4.heap.size (nxK xs r c 0)=w6:=⟨_,rfl⟩;rw[hw6]at hst5 P6 O6;obtain⟨nb,hnb⟩:∃nb,w4.heap.size=nb:=⟨_,rfl⟩;have hs6:w6.heap.size=nb+1:=by rw[O6.size,←hnb];simp
 rw[hnb]at hst5 P6 O6;have HB6:Hid (Below w.heap.size w w6):=O6.below (B4.out.alloc (by omega) _) (by omega);have HB46:Hid (Below nb w4 w6):=O6.below ((Below.refl nb w4).alloc (by omega) _) (Nat.le_refl _);have HA6:Hid (RAt w6 w.heap.size c):=HP4.out.below (by omega) HB46.out;have HR6:Hid (RAt w6 (w.heap.size+1) zeros):=R4.out.below (by omega) HB46.out;have HN6:Hid (RAt w6 nb (nxK xs r c 0)):=P6;have hlw6:w6.cell? ⟨p,0,none⟩=some (.slice ad xs.length cap):=(HB46.out.cell (p:=⟨p,0,none⟩) (by have:=HL.out.lt;show p<nb;omega)).trans hlw;have HX6:Hid (RunesAt nb w6 (.slice ad xs.length cap) xs):=(hnb▸HRN.out:RunesAt nb w4 _ xs).below HB46.out;have hnbw:w.heap.size+1<nb:=by omega
 have HNB:Hid (w4.heap.size=nb):=hnb;clear hs2 hs3 hs4 hs6 hw0 hc A3 P4 O4 hw4 A2 C2 B2 L2 hb3 hx0 hn0 hp hr hlw HRN HZ N5 P6 O6 hw6 hnb HP4 R4 HB46;rw[hst];clear hst;go_wp2_with fail;rw[HNB.out,hst5];clear hbl hst5 c0;go_wp2_with fail
 go_loopw [23] (fun v wr=>∃k:Nat,v = .int .i64 k∧k≤xs.length∧RAt wr w.heap.size c∧RAt wr nb (nxK xs r c k)∧RAt wr (w.heap.size+1) zeros∧RunesAt nb wr (.slice ad xs.length cap) xs∧Below w.heap.size w wr) (fun v _=>xs.length-(intOf v).toNat)
 case atStart=>exact⟨0,rfl,Nat.zero_le _,HA6.out,HN6.out,HR6.out,HX6.out,HB6.out⟩
 case round=>
  clear HA6 HN6 HR6 HX6 HB6 hlw6;obtain⟨k,rfl,hk,hA,hN,hR,hX,hB⟩:=hrel;have HA:Hid (RAt wr w.heap.size c):=hA;have HN:Hid (RAt wr nb (nxK xs r c k)):=hN;have HR:Hid (RAt wr (w.heap.size+1) zeros):=hR;have HX:Hid (RunesAt nb wr (.slice ad xs.length cap) xs):=hX;have HB:Hid (Below w.heap.size w wr):=hB;have hwr:nb<wr.heap.size:=hN.lt;by_cases hk8:k<xs.length
  · obtain⟨y,hy⟩:∃y,xs[k]?=some y:=⟨_,List.getElem?_eq_getElem hk8⟩
    obtain⟨gx,offx,rfl,hgx,hcx⟩:=HX.out.at hy;(have hyD:xs.getD k 0=y:=by rw[List.getD_eq_getElem?_getD,hy];rfl);obtain⟨q,hq⟩:∃q,q=k+1:=⟨_,rfl⟩;have HQ:Hid (q=k+1):=hq;have hA0:=hA.cell (i:=k) (by omega);have hA1:=hA.cell (i:=q) (by omega);have hN0:=hN.cell (i:=k) (by rw[zGf];omega);have hNq:=hN.cell (i:=q) (by rw[zGf];omega);have hNf:=hN.frozen q;rw[nxK_get _ _ _ (by omega)]at hN0;obtain⟨z,hz⟩:∃z,(nxK xs r c k).getD q 0=z:=⟨_,rfl⟩;obtain⟨c1,hc1⟩:∃c1,c.getD q 0=c1:=⟨_,rfl⟩;obtain⟨ck,hck⟩:∃ck,c.getD k 0=ck:=⟨_,rfl⟩;obtain⟨m,hm⟩:∃m,nx xs r c k=m:=⟨_,rfl⟩;(have b0:ck≤4:=by have:=HCB.out k;omega);(have b1:c1≤4:=by have:=HCB.out q;omega);(have b2:m≤5:=by have:=nx_le (xs:=xs) (r:=r) HCB.out k;omega);(have HUX:Hid (nx xs r c (k+1)=min (ck+if y=r then 0 else 1) (min (c1+1) (m+1))):=by unfold Hid;rw[nx,hck,hyD,←hq,hc1,hm]);rw[hck]at hA0;rw[hc1]at hA1;rw[hm]at hN0;rw[hz]at hNq;(have hw1:IntKind.u8.wrap ((c1:Int)+1)=(c1:Int)+1:=by rw[IntKind.wrap_u8];omega);(have hw2:IntKind.u8.wrap ((m:Int)+1)=(m:Int)+1:=by rw[IntKind.wrap_u8];omega);(have hw3:IntKind.u8.wrap ((ck:Int)+1)=(ck:Int)+1:=by rw[IntKind.wrap_u8];omega);(have hwq:IntKind.i64.wrap ((k:Int)+1)=(q:Int):=by rw[IntKind.wrap_i64];omega);(have hq25:(q:Int)<25:=by omega);(have hk25:(k:Int)<25:=by omega);clear hA hN hR hX hB hy hyD hq hz hc1 hck hm;by_cases e:y=r
    · obtain⟨u,hu⟩:∃u,nx xs r c (k+1)=u:=⟨_,rfl⟩
      have HUV:Hid (u=nx xs r c (k+1)):=hu.symm;have HU:Hid ((u:Int)=min3 (ck:Int) ((c1:Int)+1) ((m:Int)+1)):=by
       have:=HUX.out;rw[if_pos e]at this;unfold Hid min3
       split<;>split at*<;> omega
      subst e;have hS0:wr.drew.cell? ⟨w.heap.size,q,none⟩=some (bv c1)∧wr.drew.cell? ⟨nb,k,none⟩=some (bv m):=⟨hA1,hN0⟩;clear hu HUX;(go_upto_region 9 with fail);refine zBd (S:=fun W'=>W'.cell? ⟨w.heap.size,q,none⟩=some (bv c1)∧W'.cell? ⟨nb,k,none⟩=some (bv m)) 15 14 rfl zAn ?_;refine te4 id 0 36 1 37 2 38 3 39 ?_;simp only[sZa,sZb,sZc];refine te4 id 4 40 5 41 6 42 7 43 ?_;simp only[sZa,sZb,sZc];refine te4 id 8 44 9 45 10 46 11 47 ?_;simp only[sZa,sZb,sZc];refine te2 id 12 48 13 49 ?_;simp only[sZa,sZb,sZc];have hcq:=hNq;have hfq:=hNf;refine zA6 (w':=wr.drew.setCell ⟨nb,q,none⟩ (.int .u8 (min3 (ck:Int) ((c1:Int)+1) ((m:Int)+1)))) (by kernel_rfl) rfl rfl (by rfl) (by go_simp;first|done|exact rfl) (by kernel_rfl) ?_;rw[←HU.out];clear hcq hfq hNq hNf hS0;go_wp2_with fail
      go_roundw
      case rel=>
       refine⟨k+1,by rw[HQ.out],by omega,HA.out.off (by omega),?_,HR.out.off (by omega),HX.out.below ((Below.refl nb wr).drew.setCell (Nat.le_refl _) _),HB.out.drew.setCell (by show w.heap.size≤nb;omega) _⟩;rw[←zQj _ _ _ (by omega),←HUV.out,←HQ.out];exact HN.out.set
      case measure=>simp[intOf];have:=HQ.out;omega
    · obtain⟨u,hu⟩:∃u,nx xs r c (k+1)=u:=⟨_,rfl⟩
      have HUV:Hid (u=nx xs r c (k+1)):=hu.symm;have HU:Hid ((u:Int)=min3 ((ck:Int)+1) ((c1:Int)+1) ((m:Int)+1)):=by
       have:=HUX.out;rw[if_neg e]at this;unfold Hid min3
       split<;>split at*<;> omega
      (have hyr:(y==r)=false:=by simpa using e);have hS0:wr.drew.cell? ⟨w.heap.size,q,none⟩=some (bv c1)∧wr.drew.cell? ⟨nb,k,none⟩=some (bv m):=⟨hA1,hN0⟩;clear hu HUX e;(go_upto_region 9 with fail);refine zBd (S:=fun W'=>W'.cell? ⟨w.heap.size,q,none⟩=some (bv c1)∧W'.cell? ⟨nb,k,none⟩=some (bv m)) 15 14 rfl zAn ?_;refine te4 id 0 36 1 37 2 38 3 39 ?_;simp only[sZa,sZb,sZc];refine te4 id 4 40 5 41 6 42 7 43 ?_;simp only[sZa,sZb,sZc];refine te4 id 8 44 9 45 10 46 11 47 ?_;simp only[sZa,sZb,sZc];refine te2 id 12 48 13 49 ?_;simp only[sZa,sZb,sZc];have hcq:=hNq;have hfq:=hNf;refine zA6 (w':=wr.drew.setCell ⟨nb,q,none⟩ (.int .u8 (min3 ((ck:Int)+1) ((c1:Int)+1) ((m:Int)+1)))) (by kernel_rfl) rfl rfl (by rfl) (by go_simp;first|done|exact rfl) (by kernel_rfl) ?_;rw[←HU.out];clear hcq hfq hNq hNf hS0;go_wp2_with fail
      go_roundw
      case rel=>
       refine⟨k+1,by rw[HQ.out],by omega,HA.out.off (by omega),?_,HR.out.off (by omega),HX.out.below ((Below.refl nb wr).drew.setCell (Nat.le_refl _) _),HB.out.drew.setCell (by show w.heap.size≤nb;omega) _⟩;rw[←zQj _ _ _ (by omega),←HUV.out,←HQ.out];exact HN.out.set
      case measure=>simp[intOf];have:=HQ.out;omega
  · obtain rfl:k=xs.length:=by omega
    have hld:=zBm hN.range (zGf xs r c xs.length);have L8:Hid (LevAt wr p xs d):=HL.out.below hB;clear hA hN hR hX hB;go_wp2_with (go_at_call 119;refine(zLa p xs d _ _ L8.out (zGf _ _ _ _)).mono ?_;rintro e w8 ⟨rfl,hb8⟩);rw[show cutL xs.length d (nxK xs r c xs.length)=stepL xs d s r by rw[stepL,HC.out]];have hR8:RAt w8 (w.heap.size+1) zeros:=HR.out.below (by omega) hb8;have hst:=zCo hR8 zBh (zHm xs d s r);obtain⟨HP,HO⟩:=hR8.put (ys:=stepL xs d s r) (by rw[zHm,zBh]);have HBS:Hid (Below w.heap.size w (setR w8 (w.heap.size+1) (stepL xs d s r))):=HO.below (HB.out.trans (hb8.mono (by omega))) (by omega);obtain⟨w9,hw9⟩:∃w9,setR w8 (w.heap.size+1) (stepL xs d s r)=w9:=⟨_,rfl⟩;rw[hw9]at hst HP HBS;have HST:Hid (RAt w9 (w.heap.size+1) (stepL xs d s r)):=HP;clear hR8 hw9 HO HP;rw[hst];go_wp2_with fail;exact zOb Tryz.results115 rfl (zHm _ _ _ _) HST.out rfl ⟨rfl,HBS.out⟩
end
section
open Go.RowKit Nums Ed Lv
theorem keep_row(w:World)(ys:List Nat)(h:ys.length=25):∃w',zI2 Tryz.prog (.pointer (some ⟨w.heap.size,0,none⟩)) (rV ys) (w.alloc (.cells (rC zeros) 137)) = .ok () w'∧RAt w' w.heap.size ys∧Below w.heap.size w w'∧w.heap.size<w'.heap.size:=by
 have N5:RAt (w.alloc (.cells (rC zeros) 137)) w.heap.size zeros:=RAt.new _ _;obtain⟨P6,O6⟩:=N5.put (ys:=ys) (by rw[h,zBh]);exact⟨_,zCo N5 zBh h,P6,O6.below ((Below.refl _ w).alloc (Nat.le_refl _) _) (Nat.le_refl _),P6.lt⟩
theorem put_row{w:World}{b:Nat}{bs:List Nat}(ys:List Nat)(hb:RAt w b bs)(hl:bs.length=25)(h:ys.length=25):∃w',zI2 Tryz.prog (.pointer (some ⟨b,0,none⟩)) (rV ys) w = .ok () w'∧RAt w' b ys∧One b w w':=by
 obtain⟨P6,O6⟩:=hb.put (ys:=ys) (by rw[h,hl]);exact⟨_,zCo hb hl h,P6,O6⟩
def one3:List Nat:=([1,1,1]:List Nat)++List.replicate 22 0
theorem zM4(a:Act)(dst:Option Tmp)(ty:TypeId)(pos:String)(af:Array Edge)(g:Option (Nat×Bool))(w:World):(execOp a.eval ⟨dst,.build 137 #[(0,.const (.int .u8 1)),(1,.const (.int .u8 1)),(2,.const (.int .u8 1))],ty,pos,af,g⟩).run Tryz.prog w = .ok (.value (rV one3)) w:=by
 have h:(Instr.build 137 #[(0,.int .u8 1),(1,.int .u8 1),(2,.int .u8 1)]).run Tryz.prog w = .ok (rV one3) w:=by kernel_rfl
 simp only[execOp,Sem.run_bind,Sem.run_pure,List.map_toArray,List.map_cons,List.map_nil,Act.eval,h,Result.andThen]
attribute [local go_sem ↓] zA9 zCl zAy zA8 zM4
attribute [local go_sem] zEj
end
