import Derived.Test.YtobjpljdgieklaaGreatDoorJ23
import Derived.Test.YtobjpljdgieklaaGreatDoorJ9
import Derived.Test.YtobjpljdgieklaaGreatDoorJ18
import Derived.Sort.Statements
import Derived.Shelf.SlSortCmp.Insertion
set_option maxRecDepth 100000
namespace Go.Proofs.YtobjpljdgieklaaGreatDoor
namespace Pk
open Go.Proofs.YtobjpljdgieklaaGreatDoor.Nums Go.Proofs.YtobjpljdgieklaaGreatDoor.Fm Go.Proofs.YtobjpljdgieklaaGreatDoor
def ud(head:List Int)(sum:Int)(R:List En):List En:=R.map fun e=>(head++e.1,sum+e.2)
theorem zL4(head:List Int)(sum:Int)(R S:List En):ud head sum (R++S)=ud head sum R++ud head sum S:=List.map_append
theorem zHt(head:List Int)(sum:Int)(R:List En):(ud head sum R).length=R.length:=by simp[ud]
theorem ud_arc(head:List Int)(sum c o:Int)(R:List En):ud head sum ((zAm o R).map (pre c))=ud (head++[c]) (sum+o) R:=by
 simp only[ud,zAm,List.map_map];refine List.map_congr_left fun e _=>?_
 simp only[Function.comp,pre,List.append_assoc,List.singleton_append,Prod.mk.injEq,true_and];omega
def udA(D:List (List En))(head:List Int)(sum:Int)(l:List Arc):List En:=l.flatMap fun a=>ud (head++[a.label]) (sum+a.out) (D[a.to]?.getD [])
def udF(head:List Int)(sum:Int)(s:St):List En:=if s.final then [(head,sum+s.out)]else []
theorem udA_snoc(D:List (List En))(head:List Int)(sum:Int)(l:List Arc)(a:Arc):udA D head sum (l++[a])=udA D head sum l++ud (head++[a.label]) (sum+a.out) (D[a.to]?.getD []):=by simp[udA]
theorem zTz(D:List (List En))(head:List Int)(sum:Int):∀l:List Arc,ud head sum (flat (outs D l))=udA D head sum l
 |[]=>rfl
 |a::l=>by
  have e:flat (outs D (a::l))=(zAm a.out (D[a.to]?.getD [])).map (pre a.label)++flat (outs D l):=by simp[flat,outs]
  rw[e,zL4,ud_arc,zTz D head sum l];simp[udA]
theorem zP0(D:List (List En))(s:St)(head:List Int)(sum:Int):ud head sum (exp D s)=udF head sum s++udA D head sum s.arcs:=by
 rw[exp,zL4,zTz];congr 1;unfold fins udF ud;cases s.final<;>simp
theorem zIh(D:List (List En))(s:St):(exp D s).length=(if s.final then 1 else 0)+(s.arcs.map fun a=>(D[a.to]?.getD []).length).sum:=by
 have h:=congrArg List.length (zP0 D s [] 0);rw[zHt,List.length_append]at h;rw[h];congr 1
 · unfold udF;cases s.final<;>rfl
 · unfold udA
   rw[List.length_flatMap];congr 1;exact List.map_congr_left fun a _=>zHt _ _ _
structure MW(l:List Pr)(base:Int)(b:List St)(D:List (List En)):Prop where
 inv:Inv D b
 rst:Rests base D
 ne:b≠[]
 root:D[b.length-1]?=some (zAr (ents l))
 top:ud [] base (zAr (ents l))=ents l
theorem mach_walk{l:List Pr}(h:zAf l=0)(hl:l≠[]):∃D,MW l (zAl l).1 (zAl l).2 D:=by
 have hg:=zEf h hl;obtain⟨D,M⟩:=zCr 25 [] [] (ents l) Inv.nil hg;obtain⟨D2,hI2,hR⟩:=zJ2 h hl;have e:=zOw M.inv hI2;subst e;have hrl:(stF 25 [] (ents l)).2+1=(stF 25 [] (ents l)).1.length:=zMh (f:=24) hg;have hM:zAl l=(least (ents l),(stF 25 [] (ents l)).1):=by rw[zAl,if_pos ⟨h,hl⟩]
 rw[hM];refine⟨D,M.inv,hR,fun e=>?_,?_,?_⟩
 · simp only at e
   rw[e]at hrl;simp at hrl
 · simp only
   rw[←hrl,Nat.add_sub_cancel];exact M.num
 · have:zAm (least (ents l)) (zAr (ents l))=ents l:=by rw[zDl,Int.sub_self,zCe]
   conv=>rhs;rw[←this]
   unfold ud zAm;(refine List.map_congr_left fun e _=>?_);simp only[List.nil_append,Prod.mk.injEq,true_and];omega
def prW(e:En):Pr:=(zAv e.1,e.2)
theorem zL6{x:Pr}(hx:∃xs,rs x.1.data.toList=some xs):zAv (zC2 x).1=x.1:=by
 obtain⟨xs,hx⟩:=hx;obtain⟨h1,h2⟩:=zEp hx;have e:(zC2 x).1=xs:=by rw[zC2,hx];rfl
 rw[e];have h1':allR xs=true:=h1;unfold zAv;rw[if_pos h1'];have h3:(xs.flatMap wrI).map (fun n=>UInt8.ofNat n.toNat)=x.1.data.toList:=by
  rw[←h2,List.map_flatMap];rfl
 unfold strOfNums;rw[h3]
theorem zU1{l:List Pr}(h:Wd l):(ents l).map prW=l:=by
 unfold ents;rw[List.map_map]
 conv=>rhs;rw[←List.map_id l]
 refine List.map_congr_left fun x hx=>?_
 obtain⟨xs,h1,_⟩:=h x hx;simp only[Function.comp,id];exact Prod.ext (zL6 ⟨xs,h1⟩) rfl
structure Tells(base:Int)(head:List Int)(sum:Int)(R:List En):Prop where
 ln:∀e∈R,head.length+e.1.length≤24
 wt:∀e∈R,sum+e.2≤1048576
 lo:0≤sum
 hr:∀c∈head,zC5 c=true
theorem Tells.arc{base:Int}{D:List (List En)}{b:List St}(hI:Inv D b)(hR:Rests base D){i:Nat}{s:St}(hi:b[i]?=some s){head:List Int}{sum:Int}(h:Tells base head sum (exp D s)){a:Arc}(ha:a∈s.arcs):Tells base (head++[a.label]) (sum+a.out) (D[a.to]?.getD [])∧head.length<24∧sum+a.out≤1048576:=by
 obtain⟨e1,e2,e3⟩:=hI.row i s hi;have ht:=e3.to a ha;have hg:D[a.to]?.getD []=D[a.to]:=by rw[List.getElem?_eq_getElem ht];rfl
 obtain⟨f1,f2,f3,f4⟩:=zDj hI hR hi a ha;rw[hg];have hne:=hR.ne _ (List.getElem_mem ht);obtain⟨e0,he0⟩:=List.exists_mem_of_ne_nil _ hne;have key:∀e∈D[a.to],head.length+1+e.1.length≤24∧sum+a.out+e.2≤1048576:=fun e he=>by
  have hin:=arc_in ha ht he;have h1:=h.ln _ hin;have h2:=h.wt _ hin;simp only[List.length_cons]at h1 h2;omega
 have hk0:=key e0 he0;have hn0:=hR.nn _ (List.getElem_mem ht) e0 he0;have hlo:=h.lo;refine⟨⟨fun e he=>?_,fun e he=>(key e he).2,by omega,fun c hc=>?_⟩,by omega,by omega⟩
 · have:=(key e he).1
   simp only[List.length_append,List.length_singleton];omega
 · rcases List.mem_append.1 hc with hc|hc
   · exact h.hr c hc
   · rw[List.mem_singleton.1 hc];exact f4
theorem MW.tells{l:List Pr}{base:Int}{b:List St}{D:List (List En)}(h:MW l base b D):Tells base [] base (zAr (ents l)):=by
 have hm:=List.mem_of_getElem? h.root;refine⟨fun e he=>by simpa using h.rst.ln _ hm e he,fun e he=>?_,by have:=h.rst.lo;omega,fun c hc=>by cases hc⟩;have:=h.rst.wt _ hm e he;omega
theorem zHs{xs:List Int}(h:∀c∈xs,zC5 c=true):allR xs=true:=by
 unfold allR;refine List.all_eq_true.2 fun c hc=>?_
 have:=h c hc;unfold zC5 at this;simp only[Bool.and_eq_true]at this;exact this.1
end Pk
namespace Pk
open Go.Sort
def zS:RSt:=⟨false,0,[]⟩
def cfS(m:List RSt)(i j:Nat):Int:=cmpS (m.getD i zS) (m.getD j zS)
theorem zF2(s:RSt):cmpS s s=0:=(cmpS_ord.eq _ _).2 rfl
theorem cmpS_pos{s t:RSt}(h:0<cmpS s t):cmpS t s<0:=(cmpS_ord.anti _ _).2 h
theorem zPe{s t:RSt}(h:¬cmpS s t<0):s=t∨cmpS t s<0:=by
 by_cases h0:cmpS s t=0
 · exact .inl ((cmpS_ord.eq _ _).1 h0)
 · exact .inr (cmpS_pos (by omega))
theorem cfS_swo(m:List RSt):SWO (Go.Proofs.ltOf (cfS m)):=by
 refine⟨fun x=>?_,fun x y z=>?_,fun x y z=>?_⟩<;>unfold Go.Proofs.ltOf cfS
 · rw[zF2];rfl
 · simp only[decide_eq_true_eq]
   exact cmpS_ord.tr _ _ _
 · simp only[decide_eq_false_iff_not]
   intro h1 h2 h3;rcases zPe h1 with e1|g1
   · rw[e1]at h3;exact h2 h3
   · rcases zPe h2 with e2|g2
     · rw[←e2]at h3;exact h1 h3
     · have:=cmpS_ord.tr _ _ _ g2 g1
       have h4:=(cmpS_ord.anti _ _).1 h3;omega
theorem zQm{d:Array Nat}{n:Nat}(hp:d.toList.Perm (List.range n)){a:Nat}(ha:a<n):∃i,i<d.size∧d[i]! = a:=by
 have:=hp.mem_iff.2 (List.mem_range.2 ha);obtain⟨i,hi,e⟩:=List.getElem_of_mem this;have hi':i<d.size:=by simpa using hi
 exact⟨i,hi',by rw[getElem!_pos d i hi'];simpa using e⟩
theorem zU3{d:Array Nat}{n:Nat}(hp:d.toList.Perm (List.range n)){i:Nat}(hi:i<d.size):d[i]!<n:=by
 rw[getElem!_pos d i hi];exact List.mem_range.1 (hp.mem_iff.1 (by simp))
theorem zX7{m:List RSt}{d:Array Nat}(hs:SortedIn (Go.Proofs.ltOf (cfS m)) 0 m.length d)(hadj:∀i,i+1<m.length→cfS m d[i]! d[i+1]!≠0):∀(k i:Nat),i+k+1<m.length→cfS m d[i]! d[i+k+1]!<0
 |0,i,h=>by
  have h1:=hs i (i+1) (Nat.zero_le _) (by omega) (by omega);have h2:=hadj i (by omega);unfold Go.Proofs.ltOf at h1;have h1':=of_decide_eq_false h1;show cfS m d[i]! d[i+1]!<0;unfold cfS at h1' h2 ⊢;rcases zPe h1' with e|g
  · rw[e,zF2]at h2;exact absurd rfl h2
  · exact g
 |k+1,i,h=>by
  have h1:=zX7 hs hadj k i (by omega);have h2:=zX7 hs hadj 0 (i+k+1) (by omega);exact cmpS_ord.tr _ _ _ h1 h2
theorem zVc{m:List RSt}{d:Array Nat}(hd:d.size=m.length)(hp:d.toList.Perm (List.range m.length))(hs:SortedIn (Go.Proofs.ltOf (cfS m)) 0 m.length d)(hadj:∀i,i+1<m.length→cfS m d[i]! d[i+1]!≠0):m.Nodup:=by
 unfold List.Nodup;rw[List.pairwise_iff_getElem];intro a b ha hb hab e;obtain⟨i,hi,hia⟩:=zQm hp ha;obtain⟨j,hj,hjb⟩:=zQm hp hb;have hf:∀x,(hx:x<m.length)→m.getD x zS=m[x]:=fun x hx=>by rw[List.getD_eq_getElem?_getD,List.getElem?_eq_getElem hx];rfl
 have key:∀i j,i<j→j<m.length→d[i]!≠d[j]!→cfS m d[i]! d[j]!<0:=fun i j h1 h2 _=>by
  have:=zX7 hs hadj (j-i-1) i (by omega)
  rwa [show i+(j-i-1)+1=j by omega]at this
 have hc:cfS m a b=0:=by unfold cfS;rw[hf a ha,hf b hb,e,zF2]
 have hc':cfS m b a=0:=by unfold cfS;rw[hf a ha,hf b hb,e,zF2]
 rcases Nat.lt_trichotomy i j with h|h|h
 · have:=key i j h (by omega) (by rw[hia,hjb];omega)
   rw[hia,hjb]at this;omega
 · subst h
   rw[hia]at hjb;omega
 · have:=key j i h (by omega) (by rw[hia,hjb];omega)
   rw[hia,hjb]at this;omega
theorem dup_adj{m:List RSt}{d:Array Nat}(hd:d.size=m.length)(hp:d.toList.Perm (List.range m.length)){i:Nat}(hi:i+1<m.length)(h:cfS m d[i]! d[i+1]! = 0):¬m.Nodup:=fun hn=>by
 have h1:=zU3 hp (i:=i) (by omega);have h2:=zU3 hp (i:=i+1) (by omega);have hne:d[i]!≠d[i+1]!:=by
  have hnd:d.toList.Nodup:=hp.nodup_iff.2 List.nodup_range;unfold List.Nodup at hnd;rw[List.pairwise_iff_getElem]at hnd;have:=hnd i (i+1) (by simpa using(show i<d.size by omega)) (by simpa using(show i+1<d.size by omega)) (by omega);rw[getElem!_pos d i (by omega),getElem!_pos d (i+1) (by omega)];simpa using this
 have he:=(cmpS_ord.eq _ _).1 h;have hf:∀x,(hx:x<m.length)→m.getD x zS=m[x]:=fun x hx=>by rw[List.getD_eq_getElem?_getD,List.getElem?_eq_getElem hx];rfl
 rw[hf _ h1,hf _ h2]at he;unfold List.Nodup at hn;rw[List.pairwise_iff_getElem]at hn;rcases Nat.lt_trichotomy d[i]! d[i+1]! with h|h|h
 · exact hn _ _ h1 h2 h he
 · exact hne h
 · exact hn _ _ h2 h1 h he.symm
end Pk
section
open Go.RowKit Go.Lib Nums Pm
namespace Bt
structure KAt(B:Nat)(w:World)(p:Nat)(room:Int)(v:Value)(h:List Mt):Prop where
 low:B≤p
 lt:p<w.heap.size
 c0:w.cell? ⟨p,0,none⟩=some (.int .i64 room)
 c1:w.cell? ⟨p,1,none⟩=some v
 f1:w.frozen? ⟨p,1,none⟩=false
 row:GOwn 74 3 B w v (h.map cellsM)
 ap:v.ownBlock≠some p
def KF(p:Nat)(v:Value)(k:Nat):Prop:=k=p∨v.ownBlock=some k
theorem KAt.form{B:Nat}{w:World}{p:Nat}{room:Int}{v:Value}{h:List Mt}(K:KAt B w p room v h):∃ad cap,v = .slice ad h.length cap:=by
 obtain⟨ad,cap,e,_⟩:=K.row.shape;exact⟨ad,cap,by rw[e,List.length_map]⟩
theorem KAt.upd{B:Nat}{w w':World}{p:Nat}{room:Int}{v:Value}{h:List Mt}{F:Nat→Prop}(K:KAt B w p room v h)(u:Upd F w w')(hF:∀k,KF p v k→¬F k):KAt B w' p room v h:=by
 have hp:=u.block p K.lt (hF p (.inl rfl));exact⟨K.low,Nat.lt_of_lt_of_le K.lt u.size,(World.cell?_of_block (w:=w) hp).trans K.c0,(World.cell?_of_block (w:=w) hp).trans K.c1,(World.frozen?_of_block (w:=w) hp).trans K.f1,GOwn.upd K.row u (fun g hg=>hF g (.inr hg)),K.ap⟩
theorem KAt.below{B:Nat}{w w':World}{p:Nat}{room:Int}{v:Value}{h:List Mt}(K:KAt B w p room v h)(hb:Below w.heap.size w w'):KAt B w' p room v h:=
 K.upd (F:=fun _=>False) (zAj hb) (fun _ _ h=>h)
theorem KF.low{B:Nat}{w:World}{p:Nat}{room:Int}{v:Value}{h:List Mt}(K:KAt B w p room v h){k:Nat}(hk:KF p v k):B≤k:=by
 rcases hk with rfl|hk
 · exact K.low
 · exact(K.row.block hk).1
theorem KAt.lay{B:Nat}{w w':World}{p:Nat}{room:Int}{v v':Value}{h h':List Mt}{F:Nat→Prop}(K:KAt B w p room v h)(u:Upd F w w')(hF:¬F p)(ho:GOwn 74 3 B w' v' (h'.map cellsM))(ha:v'.ownBlock≠some p):KAt B (w'.setCell ⟨p,1,none⟩ v') p room v' h':=by
 have hp:=u.block p K.lt hF;have hlt:=Nat.lt_of_lt_of_le K.lt u.size;have c0:=(World.cell?_of_block (w:=w) (w':=w') (a:=⟨p,0,none⟩) hp).trans K.c0;have c1:=(World.cell?_of_block (w:=w) (w':=w') (a:=⟨p,1,none⟩) hp).trans K.c1;have f1:=(World.frozen?_of_block (w:=w) (w':=w') (a:=⟨p,1,none⟩) hp).trans K.f1;refine⟨K.low,by simpa[World.setCell]using hlt,?_,?_,?_,?_,ha⟩
 · have:=World.cell?_setCells_out p [v'] 1 w' ⟨p,0,none⟩ (fun _ _ => .inl (by simp))
   exact this.trans c0
 · exact World.cell?_setCell_same _ _ _ c1
 · exact(World.frozen?_setCells p [v'] 1 w' ⟨p,1,none⟩).trans f1
 · exact ho.same fun g hg=>Below.heap_setCell _ _ _ _ (fun e=>ha (by rw[show p=g from e.symm];exact hg))
theorem GOwn.cut{T:TypeId}{k B g n cap:Nat}{w:World}{xss:List (List Value)}(h:GOwn T k B w (.slice (some ⟨g,0,none⟩) n cap) xss)(m:Nat)(hn:n=xss.length)(hm:m≤n):GOwn T k B w (.slice (some ⟨g,0,none⟩) m cap) (xss.take m):=by
 subst hn;have hfl:∀(xs:List (List Value)) (m:Nat),(∀y∈xs,y.length=k)→(xs.take m).flatten=xs.flatten.take (m*k):=by
  intro xs
  induction xs with
  |nil=>intro m _;simp
  |cons y r ih=>
   intro m hk;cases m with
   |zero=>simp
   |succ m=>
    rw[List.take_succ_cons,List.flatten_cons,List.flatten_cons,ih m (fun z hz=>hk z (by simp[hz])),List.take_append,hk y (by simp),List.take_of_length_le (l:=y) (by rw[hk y (by simp),Nat.add_mul];omega),show(m+1)*k-k=m*k by rw[Nat.add_mul];omega]
 obtain⟨h0,hl,⟨e,_⟩|⟨g',cap',cur,e,h1,hg,h2,h3,h4,h5⟩⟩:=h
 · cases e
 · simp only[Value.slice.injEq,Option.some.injEq,Addr.mk.injEq,and_true,true_and]at e
   obtain⟨rfl,rfl⟩:=e;(have hlen:(xss.take m).length=m:=by rw[List.length_take];omega);refine⟨fun y hy=>h0 y (List.mem_of_mem_take hy),?_,.inr ⟨g,cap,cur,by rw[hlen],h1,hg,by rw[hlen];omega,h3,h4,?_⟩⟩
   · rw[hfl xss m (fun y hy=>(h0 y hy).1),List.length_take,hl,hlen]
     exact Nat.min_eq_left (Nat.mul_le_mul_right _ hm)
   · rw[hlen,hfl xss m (fun y hy=>(h0 y hy).1),←h5,List.take_take,Nat.min_eq_left (Nat.mul_le_mul_right _ hm)]
theorem zW0{P:Program}{ρ:Operand→Value}{x y:Operand}{t:TypeId}{dst:Option Tmp}{ty:TypeId}{pos:String}{af:Array Edge}{g:Option (Nat×Bool)}{w w':World}{v:Value}(h:(Builtin.append_ #[t,t] ty #[ρ x,ρ y]).run P w = .ok v w'):
 (execOp ρ ⟨dst,.call { callee := .builtin .append,args:=#[x,y],argTypes:=#[t,t] },ty,pos,af,g⟩).run P w = .ok (.value v) w':=by
 unfold execOp;simp only[resolve,invoke,builtin,Sem.run_bind,Sem.run_pure,Result.andThen_ok,List.map_toArray,List.map_cons,List.map_nil,h]
theorem zHy(w:World)(x:Value)(t:TypeId):(Instr.typeAssert (.iface 74 x) t 74 false).run Tryz.prog w = .ok x w:=by kernel_rfl
theorem zBv(w:World)(o:Obj):(w.alloc o).heap[w.heap.size]?=some o:=by show(w.heap.push o)[w.heap.size]?=_;simp
set_option maxHeartbeats 1000000 in
theorem zYg(B:Nat)(w:World)(p:Nat)(room:Int)(v:Value)(h:List Mt)(m:Mt)(K:KAt B w p room v h)(hl:h.length<1099511627776):
 Calls Tryz.prog 223 #[.pointer (some ⟨p,1,none⟩),.iface 74 (valM m)] w fun e w'=>e = .returned (.tuple #[])∧∃v',KAt B w' p room v' (h++[m])∧Upd (KF p v) w w'∧(v'.ownBlock=v.ownBlock∨∃g,v'.ownBlock=some g∧w.heap.size≤g):=by
 obtain⟨ad,cap,rfl⟩:=K.form;obtain⟨V3,hV3⟩:∃V3,w.drew=V3:=⟨_,rfl⟩;have hb3:Below w.heap.size w V3:=by rw[←hV3];exact(Below.refl _ w).drew
 have hz3:V3.heap.size=w.heap.size:=by rw[←hV3];rfl
 obtain⟨V4,hV4⟩:∃V4,V3.alloc (.cells #[.string m.1,.int .i64 m.2.1,.int .i64 m.2.2] 74)=V4:=⟨_,rfl⟩;have hb34:Below V3.heap.size V3 V4:=by rw[←hV4];exact(Below.refl _ V3).alloc (Nat.le_refl _) _
 have hb4:Below w.heap.size w V4:=hb3.trans (hb34.mono hb3.size);have hn4:V4.heap[V3.heap.size]?=some (.cells #[.string m.1,.int .i64 m.2.1,.int .i64 m.2.2] 74):=by rw[←hV4];exact zBv _ _
 have hBV:B≤V4.heap.size:=by have h1:=K.low;have h2:=K.lt;have h3:=hb4.size;omega
 obtain⟨v',W',hap,ho',hgr,hob⟩:=zBg rtyMp (GOwn.below K.row hb4) hBV (cellsM_ok m) (nb:=V3.heap.size) (fun i u hi=>by simp only[World.cell?,hn4];simpa[cellsM]using hi) (by rw[List.length_map];omega) 193 1;obtain⟨vd2,vn2,vc2,hvv2⟩:∃vd vn vc,v' = .slice vd vn vc:=by
  obtain⟨ad,cap,e,_⟩:=GOwn.shape ho';exact⟨_,_,_,e⟩
 subst hvv2;have K4:=K.below hb4;have hu7:Upd (fun k=>(Value.slice ad h.length cap).ownBlock=some k) w W':=(zAj hb4).grown hgr (fun _ _ e=>e);have hap7:(Value.slice vd2 vn2 vc2).ownBlock≠some p:=by
  rcases hob with e|⟨g,e,hg⟩
  · rw[e];exact K.ap
  · rw[e];intro e2;cases e2;have:=K4.lt;omega
 have HK:KAt B (W'.setCell ⟨p,1,none⟩ (.slice vd2 vn2 vc2)) p room (.slice vd2 vn2 vc2) (h++[m]):=K.lay hu7 K.ap (by rw[List.map_append];exact ho') hap7;have HU:Upd (KF p (.slice ad h.length cap)) w (W'.setCell ⟨p,1,none⟩ (.slice vd2 vn2 vc2)):=(hu7.mono (fun k hk => .inr hk)).setCell (a:=⟨p,1,none⟩) (.inl rfl) _;have HO:Hid ((Value.slice vd2 vn2 vc2).ownBlock=(Value.slice ad h.length cap).ownBlock∨∃g,(Value.slice vd2 vn2 vc2).ownBlock=some g∧w.heap.size≤g):=by
  rcases hob with e|⟨g,e,hg⟩
  · exact .inl e
  · exact .inr ⟨g,e,Nat.le_trans hb4.size hg⟩
 have hS3:V3.cell? ⟨p,1,none⟩=some (.slice ad h.length cap):=(K.below hb3).c1;have hS4:V4.cell? ⟨p,1,none⟩=some (.slice ad h.length cap):=K4.c1;have K5:W'.cell? ⟨p,1,none⟩=some (.slice ad h.length cap):=by rw[World.cell?_of_block (w:=w) (hu7.block p K.lt K.ap)];exact K.c1
 have F5:W'.frozen? ⟨p,1,none⟩=false:=by rw[World.frozen?_of_block (w:=w) (hu7.block p K.lt K.ap)];exact K.f1
 obtain⟨W8,hW8⟩:∃W8,W'.setCell ⟨p,1,none⟩ (.slice vd2 vn2 vc2)=W8:=⟨_,rfl⟩;rw[hW8]at HK HU;have HAP:Hid ((Builtin.append_ #[193,193] 193 #[.slice ad h.length cap,.slice (some ⟨V3.heap.size,0,none⟩) 1 1]).run Tryz.prog V4 = .ok (.slice vd2 vn2 vc2) W'):=hap;have HWS:Hid (W'.setCell ⟨p,1,none⟩ (.slice vd2 vn2 vc2)=W8):=hW8;have HV4E:Hid (V3.alloc (.cells #[.string m.1,.int .i64 m.2.1,.int .i64 m.2.2] 74)=V4):=hV4;have HKK:Hid (KAt B W8 p room (.slice vd2 vn2 vc2) (h++[m])):=HK;have HUU:Hid (Upd (KF p (.slice ad h.length cap)) w W8):=HU;have hta:=zHy;generalize h.length=n at *;clear hap ho' hgr hob hb3 hb34 hb4 hn4 hV4 hW8 K K4 hu7 hap7 HK HU hz3 hBV;unfold valM;go_enter Tryz.func223,Tryz.ntmps223;go_wp2_with fail;refine zBj (S:=fun W=>W.cell? ⟨p,1,none⟩=some (.slice ad n cap)) 10 9 rfl zMq ?_;rw[hV3];clear hV3;refine te4 id 0 4 1 5 2 6 3 7 ?_;simp only[sZa,sZb,sZc];refine te2 id 4 8 5 9 ?_;simp only[sZa,sZb,sZc];refine zAi (i:=6) (v := .slice (some ⟨V3.heap.size,0,none⟩) 1 1) (w':=V4) 10 (by kernel_rfl) rfl rfl (by rfl) (by rw[←HV4E.out];go_simp;first|done|exact rfl) hS4 ?_;simp only[sZa,sZb,sZc];refine zAi (i:=7) (v := .slice vd2 vn2 vc2) (w':=W') 11 (by kernel_rfl) rfl rfl (by rfl) (zW0 HAP.out) K5 ?_;simp only[sZa,sZb,sZc];refine zAi (i:=8) (v := .pointer (some ⟨p,1,none⟩)) (w':=W') 12 (by kernel_rfl) rfl rfl (by rfl) (by kernel_rfl) K5 ?_;simp only[sZa,sZb,sZc];refine zBb (w':=W8) (by kernel_rfl) rfl rfl (by rfl) (by rw[←HWS.out];go_simp;first|done|exact rfl) (by kernel_rfl) ?_;go_wp2;go_returns;exact⟨rfl,_,HKK.out,HUU.out,HO.out⟩
attribute [local go_sem ↓] zB3 zBu
set_option maxHeartbeats 1000000 in
theorem Ppop_any(B:Nat)(w:World)(p:Nat)(room:Int)(v:Value)(h:List Mt)(n:Nat)(K:KAt B w p room v h)(hn:h.length=n+1)(hl:h.length<1099511627776):
 Calls Tryz.prog 222 #[.pointer (some ⟨p,1,none⟩)] w fun e w'=>e = .returned (.iface 74 (valM (el h n)))∧∃v',KAt B w' p room v' (h.take n)∧Upd (KF p v) w w'∧v'.ownBlock=v.ownBlock:=by
 obtain⟨g,cap,rfl,hg,_,hcap,hc⟩:=GOwn.mt K.row (by omega);obtain⟨n0,n1,n2,f0,f1,f2⟩:=hc n (by omega);have hgp:g≠p:=fun e=>K.ap (by rw[e];rfl)
 obtain⟨V1,hV1⟩:∃V1,w.alloc (.cells #[.string ⟨#[]⟩,.int .i64 0,.int .i64 0] 74)=V1:=⟨_,rfl⟩;obtain⟨mb,hmb⟩:∃mb,w.heap.size=mb:=⟨_,rfl⟩;have hb1:Below w.heap.size w V1:=by rw[←hV1];exact(Below.refl _ w).alloc (Nat.le_refl _) _
 have hn1:V1.heap[mb]?=some (.cells #[.string ⟨#[]⟩,.int .i64 0,.int .i64 0] 74):=by rw[←hV1,←hmb];exact zBv _ _
 obtain⟨V2,hV2⟩:∃V2,V1.setCells mb 0 (cellsM (el h n))=V2:=⟨_,rfl⟩;have s1:zC7 Tryz.prog (.pointer (some ⟨mb,0,none⟩)) (valM (el h n)) V1 = .ok () V2:=by
  rw[←hV2];exact zC6 (u := .string ⟨#[]⟩) (v := .int .i64 0) (z := .int .i64 0) (by simp[World.cell?,hn1]) (by simp[World.cell?,hn1]) (by simp[World.cell?,hn1]) (by simp[World.frozen?,hn1]) (by simp[World.frozen?,hn1]) (by simp[World.frozen?,hn1])
 have u2:Upd (fun k=>k=mb) w V2:=by rw[←hV2];exact Upd.setCells (F:=fun k=>k=mb) rfl _ _ (zAj hb1)
 have hpm:¬p=mb:=by have:=K.lt;omega
 have K2:KAt B V2 p room (.slice (some ⟨g,0,none⟩) h.length cap) h:=K.upd u2 (fun k hk e=>by
  rcases hk with e2|e2
  · omega
  · simp only[Value.ownBlock,Option.some.injEq]at e2;omega)
 obtain⟨V3,hV3⟩:∃V3,V2.setCells g (n*3) (cellsM (⟨#[]⟩,0,0))=V3:=⟨_,rfl⟩;have s2:zC7 Tryz.prog (.pointer (some ⟨g,n*3,none⟩)) (.agg #[.string ⟨#[]⟩,.int .i64 0,.int .i64 0]) V2 = .ok () V3:=by
  rw[←hV3];have e2:=fun j=>World.cell?_of_block (w:=w) (w':=V2) (a:=⟨g,j,none⟩) (u2.block g hg (by show ¬g=mb;omega))
  have e3:=fun j=>World.frozen?_of_block (w:=w) (w':=V2) (a:=⟨g,j,none⟩) (u2.block g hg (by show ¬g=mb;omega))
  exact zC6 (x:=(⟨#[]⟩,0,0)) ((e2 _).trans n0) ((e2 _).trans n1) ((e2 _).trans n2) ((e3 _).trans f0) ((e3 _).trans f1) ((e3 _).trans f2)
 have u3:Upd (fun k=>k=g) V2 V3:=by rw[←hV3];exact Upd.setCells (F:=fun k=>k=g) rfl _ _ (Upd.refl _ _)
 have G3:GOwn 74 3 B V3 (.slice (some ⟨g,0,none⟩) n cap) ((h.take n).map cellsM):=by
  have G2:=GOwn.put K2.row (by simp) n (by simp;omega) (cellsM (⟨#[]⟩,0,0)) (cellsM_ok _);rw[hV3]at G2;have:=GOwn.cut G2 n (by simp) (by omega);rw[List.take_set_of_le (Nat.le_refl _),←List.map_take]at this;exact this
 have c3:V3.cell? ⟨p,1,none⟩=some (.slice (some ⟨g,0,none⟩) h.length cap):=(World.cell?_of_block (w:=V2) (a:=⟨p,1,none⟩) (u3.block p K2.lt (by show ¬p=g;omega))).trans K2.c1;have f3:V3.frozen? ⟨p,1,none⟩=false:=(World.frozen?_of_block (w:=V2) (a:=⟨p,1,none⟩) (u3.block p K2.lt (by show ¬p=g;omega))).trans K2.f1;have K4:KAt B (V3.setCell ⟨p,1,none⟩ (.slice (some ⟨g,0,none⟩) n cap)) p room (.slice (some ⟨g,0,none⟩) n cap) (h.take n):=K2.lay u3 (by show ¬p=g;omega) G3 (by simp only[Value.ownBlock,ne_eq,Option.some.injEq];exact hgp);have u4:Upd (KF p (.slice (some ⟨g,0,none⟩) h.length cap)) w (V3.setCell ⟨p,1,none⟩ (.slice (some ⟨g,0,none⟩) n cap)):=by
  refine Upd.setCell (F:=KF p (.slice (some ⟨g,0,none⟩) h.length cap)) (a:=⟨p,1,none⟩) ?_ (.inl rfl) _;have u5:Upd (KF p (.slice (some ⟨g,0,none⟩) h.length cap)) w V2:=⟨u2.os,u2.tape,u2.output,u2.size,fun k hk _=>u2.block k hk (by show ¬k=mb;omega)⟩;exact u5.trans u3 (fun k _ e => .inr (by rw[show k=g from e];rfl))
 obtain⟨V4,hV4⟩:∃V4,V3.setCell ⟨p,1,none⟩ (.slice (some ⟨g,0,none⟩) n cap)=V4:=⟨_,rfl⟩;rw[hV4]at K4 u4;have l4:zFp Tryz.prog (.pointer (some ⟨mb,0,none⟩)) V4 = .ok (valM (el h n)) V4:=by
  have hv2:V2.heap.size=V1.heap.size:=by(rw[←hV2];simp[cellsM,World.setCells,World.setCell])
  have hm1:mb<V1.heap.size:=(Array.getElem?_eq_some_iff.1 hn1).1;have hm2:mb<V2.heap.size:=by omega
  have hb4:V4.heap[mb]?=V2.heap[mb]?:=by
   rw[←hV4,Below.heap_setCell _ _ _ _ (by show mb≠p;omega),u3.block mb hm2 (by show ¬mb=g;omega)]
  have e:∀j,V4.cell? ⟨mb,j,none⟩=V2.cell? ⟨mb,j,none⟩:=fun j=>World.cell?_of_block (w:=V2) (a:=⟨mb,j,none⟩) hb4
  have I:=World.cell?_setCells_in mb (cellsM (el h n)) 0 V1 (fun j hj=>by
   (have:j=0∨j=1∨j=2:=by simp[cellsM]at hj;omega);rcases this with rfl|rfl|rfl<;>simp[World.cell?,hn1])
  rw[hV2]at I;exact zDp ((e 0).trans (I 0 (by simp[cellsM]))) ((e 1).trans (I 1 (by simp[cellsM]))) ((e 2).trans (I 2 (by simp[cellsM])))
 have l0:zFp Tryz.prog (.pointer (some ⟨g,n*3,none⟩)) w = .ok (valM (el h n)) w:=zDp n0 n1 n2;have HK:Hid (KAt B V4 p room (.slice (some ⟨g,0,none⟩) n cap) (h.take n)):=K4;have HU:Hid (Upd (KF p (.slice (some ⟨g,0,none⟩) h.length cap)) w V4):=u4;have c0:=K.c1;have c2:=K2.c1;have hw:IntKind.i64.wrap ((h.length:Int)-1)=(n:Int):=by rw[IntKind.wrap_i64];omega
 have hnl:(n:Int)<(h.length:Int):=by omega
 have hnc:(n:Int)≤(cap:Int):=by omega
 have hc0:¬cap=0:=by omega
 generalize el h n=x at *;generalize h.take n=ht at *;generalize h.length=ln at *;clear K K2 K4 u2 u3 u4 G3 hc n0 n1 n2 f0 f1 f2 hb1 hn1 hV2 hV3 hn hcap hgp hpm;go_enter Tryz.func222,Tryz.ntmps222;go_wp2;go_ret;exact⟨rfl,_,HK.out,HU.out,rfl⟩
end Bt
end
section
open Go.RowKit Go.Lib Nums Pm
namespace Bt
def zGl(p:Nat):Value := .iface 199 (.pointer (some ⟨p,1,none⟩))
theorem zK4(W:World)(p:Nat)(ad:Option Addr)(n cap:Nat)(h:W.cell? ⟨p,1,none⟩=some (.slice ad n cap))(s:String)(f:FuncId)(k fuel:Nat)
 (e2:Array.find? (fun x=>x.name==s) (Tryz.prog.types[199]!).methods=some (Tryz.prog.types[199]!.methods[k]!)) (hp:(Tryz.prog.types[199]!.methods[k]!).path=#[]) (hf:(Tryz.prog.types[199]!.methods[k]!).func=some (f,false)):(method (fuel+1) 199 (.pointer (some ⟨p,1,none⟩)) s).run Tryz.prog W = .ok (f,.slice ad n cap) W:=by
 have e1:(typeInfo 199).run Tryz.prog W = .ok (Tryz.prog.types[199]!) W:=by kernel_rfl
 have e3:(underlying 199).run Tryz.prog W = .ok (.pointer 193) W:=by kernel_rfl
 have e4:∀a b:String,(Builtin.ssaWrapNilChk_ #[199] 199 #[.pointer (some ⟨p,1,none⟩),strVal a,strVal b]).run Tryz.prog W = .ok (.pointer (some ⟨p,1,none⟩)) W:=fun _ _=>by kernel_rfl
 unfold method;simp only[Sem.run_bind,e1,Result.andThen_ok,e2,hp,hf,follow,receiverAt,Sem.run_pure,e3,Place.get,asAddr,loadVar];simp[go_sem,h,e4]
theorem zFo (W : World) (p : Nat) (ad : Option Addr) (n cap : Nat) (h : W.cell? ⟨p, 1, none⟩ = some (.slice ad n cap)) : (method 400 199 (.pointer (some ⟨p, 1, none⟩)) "Less").run Tryz.prog W = .ok (220, .slice ad n cap) W :=
 zK4 W p ad n cap h "Less" _ 1 _ (by kernel_rfl) (by kernel_rfl) (by kernel_rfl)
theorem zEb (W : World) (p : Nat) (ad : Option Addr) (n cap : Nat) (h : W.cell? ⟨p, 1, none⟩ = some (.slice ad n cap)) : (method 400 199 (.pointer (some ⟨p, 1, none⟩)) "Swap").run Tryz.prog W = .ok (221, .slice ad n cap) W :=
 zK4 W p ad n cap h "Swap" _ 4 _ (by kernel_rfl) (by kernel_rfl) (by kernel_rfl)
theorem zQs (W : World) (p : Nat) (ad : Option Addr) (n cap : Nat) (h : W.cell? ⟨p, 1, none⟩ = some (.slice ad n cap)) : (method 400 199 (.pointer (some ⟨p, 1, none⟩)) "Len").run Tryz.prog W = .ok (160, .slice ad n cap) W :=
 zK4 W p ad n cap h "Len" _ 0 _ (by kernel_rfl) (by kernel_rfl) (by kernel_rfl)
theorem zVl (W : World) (p : Nat) : (method 400 199 (.pointer (some ⟨p, 1, none⟩)) "Push").run Tryz.prog W = .ok (223, .pointer (some ⟨p, 1, none⟩)) W := by kernel_rfl
theorem meth_pop (W : World) (p : Nat) : (method 400 199 (.pointer (some ⟨p, 1, none⟩)) "Pop").run Tryz.prog W = .ok (222, .pointer (some ⟨p, 1, none⟩)) W := by kernel_rfl
set_option maxHeartbeats 1000000 in
theorem up_any(B:Nat)(w:World)(p:Nat)(room:Int)(v:Value)(h:List Mt)(j:Nat)(K:KAt B w p room v h)(J:UpJ h.length h j)(hl:h.length<1099511627776):
 Calls Tryz.prog 162 #[zGl p,.int .i64 j] w fun e w'=>e = .returned (.tuple #[])∧∃h',KAt B w' p room v h'∧Upd (KF p v) w w'∧h'.Perm h∧Hp h'.length h':=by
 obtain⟨ad,cap,hv⟩:=K.form;obtain⟨n,hn⟩:∃n,h.length=n:=⟨_,rfl⟩;rw[hn]at hv hl J;subst hv;have HK:Hid (KAt B w p room (.slice ad n cap) h):=K;have HJ:Hid (UpJ n h j):=J;have hj:=J.lt;have HN:Hid (h.length=n):=hn;clear K J hn;unfold zGl;go_enter Tryz.func162,Tryz.ntmps162;go_wp2
 go_loopg [1] j (fun g s1 wr=>∃(k:Nat) (h':List Mt),s1 = .int .i64 k∧k≤g∧k<n∧Hid (KAt B wr p room (.slice ad n cap) h'∧UpJ n h' k∧h'.Perm h∧Upd (KF p (.slice ad n cap)) w wr))
 case atStart=>exact⟨j,h,rfl,Nat.le_refl _,by omega,HK.out,HJ.out,.refl _,Upd.refl _ _⟩
 case round=>
  obtain⟨k,h',rfl,hkg,hkn,HR⟩:=hrel;have HL':Hid (h'.length=n):=by have:=HR.out.2.2.1.length_eq;have:=HN.out;show h'.length=n;omega
  by_cases h0:k=0
  · subst h0
    go_wp2;go_returns;exact⟨rfl,h',HR.out.1,HR.out.2.2.2,HR.out.2.2.1,by rw[HL'.out];exact HR.out.2.1.stop (.inl rfl)⟩
  · have hpk:pa k<k:=by unfold pa;omega
    have hdiv:((k:Int)-1).tdiv 2=(pa k:Int):=by
     (have:(k:Int)-1=((k-1:Nat):Int):=by omega);rw[this];unfold pa;exact(Int.ofNat_tdiv _ _).symm
    (have hne:((pa k:Int)==(k:Int))=false:=by simp;omega);have hm:=zFo wr p ad n cap HR.out.1.c1;have HLS:Hid (Calls Tryz.prog 220 #[.slice ad n cap,.int .i64 (k:Int),.int .i64 (pa k:Int)] wr fun e w'=>e = .returned (.bool (btr (el h' (pa k)) (el h' k)))∧Below wr.heap.size wr w'):=zGb B wr _ h' HR.out.1.row k (pa k) (by have:=HL'.out;omega) (by have:=HL'.out;omega) (by have:=HL'.out;omega);obtain⟨i,hi⟩:∃i,pa k=i:=⟨_,rfl⟩;rw[hi]at hdiv hne HLS hpk;obtain⟨b,hb⟩:∃b,btr (el h' i) (el h' k)=b:=⟨_,rfl⟩;have HI:Hid (pa k=i):=hi;have HB:Hid (btr (el h' i) (el h' k)=b):=hb;rw[hb]at HLS;clear hi hb h0;cases b
    · go_wp2_with (go_at_call 220;refine HLS.out.mono ?_;rintro e w1 ⟨rfl,hb1⟩;have HB1:Hid (Below wr.heap.size wr w1):=hb1;clear hb1)
      go_returns;exact⟨rfl,h',HR.out.1.below HB1.out,HR.out.2.2.2.trans (G:=fun _=>False) (zAj HB1.out) (fun _ _ f=>f.elim),HR.out.2.2.1,by rw[HL'.out];exact HR.out.2.1.stop (.inr (by rw[HI.out];exact HB.out))⟩
    · go_wp2_with (go_at_call 220;refine HLS.out.mono ?_;rintro e w1 ⟨rfl,hb1⟩;have HB1:Hid (Below wr.heap.size wr w1):=hb1;clear hb1;clear hm;have hm:=zEb w1 p ad n cap (HR.out.1.below HB1.out).c1)
      have HSW:Hid (Calls Tryz.prog 221 #[.slice ad n cap,.int .i64 (i:Int),.int .i64 (k:Int)] w1 fun e w'=>e = .returned (.tuple #[])∧GOwn 74 3 B w' (.slice ad n cap) ((swp h' i k).map cellsM)∧Upd (fun j=>(Value.slice ad n cap).ownBlock=some j) w1 w'):=zF8 B w1 _ h' (HR.out.1.below HB1.out).row i k (by have:=HL'.out;omega) (by have:=HL'.out;omega) (by have:=HL'.out;omega);refine HSW.out.mono ?_;rintro e w2 ⟨rfl,hg2,hu2⟩;have K1:=HR.out.1.below HB1.out;have HR2:Hid (KAt B w2 p room (.slice ad n cap) (swp h' i k)∧UpJ n (swp h' i k) i∧(swp h' i k).Perm h∧Upd (KF p (.slice ad n cap)) w w2):=by
       have J2:=HR.out.2.1.step (by omega) (by rw[HI.out];exact HB.out);rw[HI.out]at J2;have hp:=hu2.block p K1.lt K1.ap;refine⟨⟨K1.low,Nat.lt_of_lt_of_le K1.lt hu2.size,(World.cell?_of_block (w:=w1) (a:=⟨p,0,none⟩) hp).trans K1.c0,(World.cell?_of_block (w:=w1) (a:=⟨p,1,none⟩) hp).trans K1.c1,(World.frozen?_of_block (w:=w1) (a:=⟨p,1,none⟩) hp).trans K1.f1,hg2,K1.ap⟩,J2,(zKl h' i k (by have:=HL'.out;omega) (by have:=HL'.out;omega)).trans HR.out.2.2.1,?_⟩;exact(HR.out.2.2.2.trans (G:=fun _=>False) (zAj HB1.out) (fun _ _ f=>f.elim)).trans hu2 (fun _ _ e => .inr e)
      clear hg2 hu2 K1 HR hm HLS HSW;go_wp2;go_roundg i;(case measure=>omega);case rel=>exact⟨i,swp h' i k,rfl,Nat.le_refl _,by omega,HR2⟩
end Bt
end
